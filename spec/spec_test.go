package spec

import (
	"math"
	"math/rand/v2"
	"slices"
	"testing"

	"sacristan/api"
)

// The limits, as DOC.md and the chapter have them.
const (
	maxID    = 1 << 31
	maxRes   = 1 << 40
	maxTick  = 1 << 40
	maxPort  = 65535
	maxPorts = 8
	maxTasks = 4
	maxLimit = 8
	probes   = 1000
	allocs   = 8
)

// edges are the least and the greatest numbers, 0, the ends of what is valid somewhere, what is just outside of these, and numbers that are valid if some of their bits are lost.
var edges = []int{
	math.MinInt, math.MinInt + 1, math.MinInt + 3, -maxTick - 1, -maxTick, -maxID - 1, -maxID, -1 << 32, -probes, -3, -2, -1,
	0, 1, 2, 3, 7, 8, 9, 80, 247, 248, 255, 256, 257, probes - 1, probes, probes + 1, maxPort - 1, maxPort, maxPort + 1,
	maxID - 1, maxID, maxID + 1, 1<<32 - 1, 1 << 32, 1<<32 + 1, 1<<32 + 7, maxTick - 1, maxTick, maxTick + 1, 2 * maxTick, 1<<48 + 1, math.MaxInt - 1, math.MaxInt,
}

// The reference is written from the definitions, and calls no other layer.

func outside(n, least, most int) bool {
	return n < least || n > most
}

func wrongRes(r api.Res) bool {
	return outside(r.CPU, 0, maxRes) || outside(r.Mem, 0, maxRes) || outside(r.Disk, 0, maxRes)
}

func wrongTask(task api.TaskSpec) bool {
	p := task.Policy
	return outside(p.Limit, 1, maxLimit) || outside(p.Window, 1, maxTick) || outside(p.Most, 1, maxTick) || outside(p.Base, 1, p.Most) || outside(task.Probes, 0, probes)
}

func wantPorts(l []int) api.Errno {
	if len(l) > maxPorts {
		return api.ErrLong
	}
	for i, port := range l {
		if outside(port, 1, maxPort) {
			return api.ErrRange
		}
		if i > 0 && l[i-1] >= port {
			return api.ErrOrder
		}
	}
	return api.OK
}

func wantCheck(s api.Spec) api.Errno {
	if outside(s.ID, 0, maxID) || wrongRes(s.Res) {
		return api.ErrRange
	}
	if e := wantPorts(s.Ports); e != api.OK {
		return e
	}
	if len(s.Tasks) == 0 {
		return api.ErrArg
	}
	if len(s.Tasks) > maxTasks {
		return api.ErrLong
	}
	if slices.ContainsFunc(s.Tasks, wrongTask) {
		return api.ErrRange
	}
	return api.OK
}

func wantConfig(c api.Config) api.Errno {
	wrong := wrongRes(c.Cap) || outside(c.Allocs, 1, allocs) || outside(c.Area, 16*(c.Allocs+1), 1024) ||
		outside(c.Files, 2, 16) || outside(c.Blocks, 1, 64) || outside(c.Beat, 1, maxTick) || outside(c.Lease, 1, maxTick) ||
		outside(c.Grace, 0, maxTick) || outside(c.Wait, 0, maxTick)
	if wrong {
		return api.ErrRange
	}
	return api.OK
}

// same reports whether two specifications are equal, element by element.
func same(a, b api.Spec) bool {
	if a.ID != b.ID || a.Res != b.Res || len(a.Ports) != len(b.Ports) || len(a.Tasks) != len(b.Tasks) {
		return false
	}
	for i := range a.Ports {
		if a.Ports[i] != b.Ports[i] {
			return false
		}
	}
	for i := range a.Tasks {
		if a.Tasks[i] != b.Tasks[i] {
			return false
		}
	}
	return true
}

// The samples.

// span is a policy with this Base and this Most.
func span(base, most int) api.Policy {
	return api.Policy{Limit: 2, Window: 20, Base: base, Most: most}
}

// ordinary returns the specification of the chapter's examples.
func ordinary() api.Spec {
	return api.Spec{ID: 7, Res: api.Res{CPU: 4, Mem: 4, Disk: 4}, Ports: []int{80}, Tasks: []api.TaskSpec{{Policy: span(2, 8)}}}
}

// least returns the specification whose fields are all as small as they may be.
func least() api.Spec {
	return api.Spec{Tasks: []api.TaskSpec{{Policy: api.Policy{Limit: 1, Window: 1, Base: 1, Most: 1}}}}
}

// largest returns the specification whose fields are all as great as they may be.
func largest() api.Spec {
	s := api.Spec{ID: maxID, Res: api.Res{CPU: maxRes, Mem: maxRes, Disk: maxRes}}
	for i := range maxPorts {
		s.Ports = append(s.Ports, maxPort-maxPorts+1+i)
	}
	for range maxTasks {
		policy := api.Policy{Always: true, Limit: maxLimit, Window: maxTick, Base: maxTick, Most: maxTick}
		s.Tasks = append(s.Tasks, api.TaskSpec{Policy: policy, Probes: probes})
	}
	return s
}

// mixed returns a specification whose numbers are all different, but for its counts.
func mixed() api.Spec {
	return api.Spec{
		ID: 1000000, Res: api.Res{CPU: 300, Mem: 70000, Disk: 1 << 33}, Ports: []int{22, 443, 8080},
		Tasks: []api.TaskSpec{
			{Policy: api.Policy{Always: true, Limit: 5, Window: 600, Base: 10, Most: 4000}, Probes: 6},
			{Policy: api.Policy{Limit: 7, Window: 1 << 20, Base: 1 << 21, Most: 1 << 22}, Probes: 900},
			{Policy: api.Policy{Always: true, Limit: 1, Window: 2, Base: 247, Most: 248}, Probes: 0},
		},
	}
}

// wideTasks returns a specification with n tasks, whose Base may be as great as may be, and whose Most as small.
func wideTasks(n int) api.Spec {
	s := ordinary()
	s.Tasks = nil
	for range n {
		s.Tasks = append(s.Tasks, api.TaskSpec{Policy: span(1, maxTick), Probes: 3})
	}
	return s
}

func generator() *rand.Rand {
	return rand.New(rand.NewPCG(13, 1))
}

// upTo returns a number from 0 to most, of every size.
func upTo(g *rand.Rand, most int) int {
	return g.IntN(most>>g.IntN(42) + 1)
}

// random returns a valid specification.
func random(g *rand.Rand) api.Spec {
	s := api.Spec{ID: upTo(g, maxID), Res: api.Res{CPU: upTo(g, maxRes), Mem: upTo(g, maxRes), Disk: upTo(g, maxRes)}}
	for range g.IntN(maxPorts + 1) {
		s.Ports = append(s.Ports, 1+upTo(g, maxPort-1))
	}
	slices.Sort(s.Ports)
	s.Ports = slices.Compact(s.Ports)
	for range 1 + g.IntN(maxTasks) {
		most := 1 + upTo(g, maxTick-1)
		policy := api.Policy{Always: g.IntN(2) == 1, Limit: 1 + g.IntN(maxLimit), Window: 1 + upTo(g, maxTick-1), Base: 1 + upTo(g, most-1), Most: most}
		s.Tasks = append(s.Tasks, api.TaskSpec{Policy: policy, Probes: upTo(g, probes)})
	}
	return s
}

// samples returns valid specifications, those at the ends first.
func samples() []api.Spec {
	all := []api.Spec{least(), ordinary(), mixed(), largest()}
	for n := 1; n <= maxTasks; n++ {
		all = append(all, wideTasks(n))
	}
	g := generator()
	for range 300 {
		all = append(all, random(g))
	}
	return all
}

// clone returns a specification that shares no memory with s.
func clone(s api.Spec) api.Spec {
	c := api.Spec{ID: s.ID, Res: s.Res}
	for _, port := range s.Ports {
		c.Ports = append(c.Ports, port)
	}
	for _, task := range s.Tasks {
		c.Tasks = append(c.Tasks, task)
	}
	return c
}

// fields returns where the numbers of a specification are, but for its counts.
func fields(s *api.Spec) []*int {
	l := []*int{&s.ID, &s.Res.CPU, &s.Res.Mem, &s.Res.Disk}
	for i := range s.Ports {
		l = append(l, &s.Ports[i])
	}
	for i := range s.Tasks {
		p := &s.Tasks[i].Policy
		l = append(l, &p.Limit, &p.Window, &p.Base, &p.Most, &s.Tasks[i].Probes)
	}
	return l
}

// spoiled returns s with something else in a few of its fields; it may be valid all the same.
func spoiled(g *rand.Rand, s api.Spec) api.Spec {
	s = clone(s)
	for range 1 + g.IntN(3) {
		l := fields(&s)
		switch g.IntN(6) {
		case 0:
			s.Ports = append(s.Ports, edges[g.IntN(len(edges))])
		case 1:
			s.Tasks = append(s.Tasks, api.TaskSpec{})
		case 2:
			s.Ports = s.Ports[:len(s.Ports)/2]
		case 3:
			s.Tasks = s.Tasks[:len(s.Tasks)/2]
		default:
			*l[g.IntN(len(l))] = edges[g.IntN(len(edges))]
		}
	}
	return s
}

// anything returns specifications that are valid, and ones that are not, those without lists first.
func anything() []api.Spec {
	all := []api.Spec{{}, {ID: -1}, {Ports: []int{}, Tasks: []api.TaskSpec{}}, {Ports: []int{0}}, {Tasks: make([]api.TaskSpec, 1)}, {Ports: []int{80, 80, -1}}}
	all = append(all, api.Spec{Ports: make([]int, 30), Tasks: make([]api.TaskSpec, 30)}, wideTasks(maxTasks+1))
	g := generator()
	for _, s := range samples() {
		all = append(all, s, spoiled(g, s), spoiled(g, s))
	}
	return all
}

func expectCheck(t *testing.T, want api.Errno, s api.Spec) {
	t.Helper()
	if got := Check(s); got != want {
		t.Errorf("Check(%+v) = %v, want %v", s, got, want)
	}
}

func expectConfig(t *testing.T, want api.Errno, c api.Config) {
	t.Helper()
	if got := Config(c); got != want {
		t.Errorf("Config(%+v) = %v, want %v", c, got, want)
	}
}

// valid returns numbers from least to most, both ends among them.
func valid(least, most int) []int {
	return []int{least, least + 1, least + (most-least)/2, most - 1, most}
}

// wrong returns numbers that are not from least to most, which are not negative: those beside them, and ones that are among them if some of their bits are lost.
func wrong(least, most int) []int {
	l := []int{least - 1, -1, -least - 1, -most, math.MinInt, math.MinInt + 1, math.MinInt + least, math.MinInt + most, most + 1, 1<<48 + least, 1<<48 + most, math.MaxInt - 1, math.MaxInt}
	for _, n := range edges {
		if outside(n, least, most) {
			l = append(l, n)
		}
	}
	return l
}

// The promises of Check, Config, Need, Copy and Equal; those about bytes are in bytes_test.go.

func TestExamples(t *testing.T) { // P13.1, P13.2
	expectCheck(t, api.OK, ordinary())
	for want, change := range map[api.Errno]func(s *api.Spec){
		api.ErrOrder: func(s *api.Spec) { s.Ports = []int{80, 80} },
		api.ErrArg:   func(s *api.Spec) { s.Tasks = nil },
	} {
		s := ordinary()
		change(&s)
		expectCheck(t, want, s)
	}
	for _, change := range []func(s *api.Spec){
		func(s *api.Spec) { s.ID = -1 },
		func(s *api.Spec) { s.Tasks[0].Policy.Base = 9 },
		func(s *api.Spec) { s.Tasks[0].Probes = 1001 },
	} {
		s := ordinary()
		change(&s)
		expectCheck(t, api.ErrRange, s)
	}
	if Need(2) != 48 || Need(0) != 0 {
		t.Errorf("Need(2) = %d, Need(0) = %d, want 48 and 0", Need(2), Need(0))
	}
	expectConfig(t, api.OK, node())
	small, few := node(), node()
	small.Area, few.Files = 47, 1
	expectConfig(t, api.ErrRange, small)
	expectConfig(t, api.ErrRange, few)
}

func TestCheckOfSamples(t *testing.T) { // P13.1
	for _, s := range samples() {
		expectCheck(t, api.OK, s)
	}
}

// expectField says that a number of s, which is valid with it, has to be from least to most.
func expectField(t *testing.T, s api.Spec, least, most int, field func(s *api.Spec) *int) {
	t.Helper()
	s = clone(s)
	for _, n := range valid(least, most) {
		*field(&s) = n
		expectCheck(t, api.OK, s)
	}
	for _, n := range wrong(least, most) {
		*field(&s) = n
		expectCheck(t, api.ErrRange, s)
	}
}

func TestCheckOfID(t *testing.T) { // P13.1
	for _, s := range []api.Spec{ordinary(), least(), largest(), mixed()} {
		expectField(t, s, 0, maxID, func(s *api.Spec) *int { return &s.ID })
	}
}

func TestCheckOfResources(t *testing.T) { // P13.1
	for _, s := range []api.Spec{ordinary(), least(), largest(), mixed()} {
		expectField(t, s, 0, maxRes, func(s *api.Spec) *int { return &s.Res.CPU })
		expectField(t, s, 0, maxRes, func(s *api.Spec) *int { return &s.Res.Mem })
		expectField(t, s, 0, maxRes, func(s *api.Spec) *int { return &s.Res.Disk })
	}
}

func TestCheckOfPorts(t *testing.T) { // P13.1
	const far = 1<<32 + 80
	for _, row := range []struct {
		want  api.Errno
		ports []int
	}{
		{api.OK, nil}, {api.OK, []int{}}, {api.OK, []int{1}}, {api.OK, []int{maxPort}}, {api.OK, []int{1, 2}}, {api.OK, []int{1, maxPort}},
		{api.OK, []int{1, 2, 3, 4, 5, 6, 7, 8}}, {api.OK, []int{22, 80, 443, 8080, 65532, 65533, 65534, 65535}},
		{api.ErrRange, []int{0}}, {api.ErrRange, []int{-1}}, {api.ErrRange, []int{maxPort + 1}}, {api.ErrRange, []int{math.MinInt}}, {api.ErrRange, []int{math.MaxInt}},
		{api.ErrRange, []int{-80}}, {api.ErrRange, []int{far}}, {api.ErrRange, []int{1, 2, maxPort + 1}}, {api.ErrRange, []int{1, 2, 3, 4, 5, 6, 7, 0}}, {api.ErrRange, []int{80, far, 443}},
		{api.ErrOrder, []int{80, 80}}, {api.ErrOrder, []int{443, 80}}, {api.ErrOrder, []int{81, 80}}, {api.ErrOrder, []int{maxPort, 1}}, {api.ErrOrder, []int{1, 3, 2}},
		{api.ErrOrder, []int{1, 2, 2, 3}}, {api.ErrOrder, []int{1, 2, 3, 4, 5, 6, 7, 7}}, {api.ErrOrder, []int{2, 1, 3, 4, 5, 6, 7, 8}},
		{api.ErrLong, []int{1, 2, 3, 4, 5, 6, 7, 8, 9}}, {api.ErrLong, make([]int, 9)}, {api.ErrLong, []int{9, 8, 7, 6, 5, 4, 3, 2, 1}}, {api.ErrLong, make([]int, 1<<16)},
		{api.ErrOrder, []int{5, 3, 0}}, {api.ErrRange, []int{5, 0, 3}}, {api.ErrRange, []int{0, 5, 3}}, // the first one of several
	} {
		for _, s := range []api.Spec{ordinary(), least(), largest(), mixed()} {
			s.Ports = row.ports
			expectCheck(t, row.want, s)
		}
	}
}

func TestCheckOfTheNumberOfTasks(t *testing.T) { // P13.1
	for _, tasks := range [][]api.TaskSpec{nil, {}, make([]api.TaskSpec, 0, 4), wideTasks(4).Tasks[:0]} {
		s := ordinary()
		s.Tasks = tasks
		expectCheck(t, api.ErrArg, s)
	}
	for n := 1; n <= 4; n++ {
		expectCheck(t, api.OK, wideTasks(n))
	}
	for _, n := range []int{5, 6, 7, 8, 9, 256, 257, 260, 1<<16 + 1} {
		expectCheck(t, api.ErrLong, wideTasks(n))
	}
}

func TestCheckOfTasks(t *testing.T) { // P13.1: a fault is in the first one, in the middle, in the last one, or in the only one
	for n := 1; n <= maxTasks; n++ {
		for i := range n {
			s := wideTasks(n)
			expectField(t, s, 1, maxLimit, func(s *api.Spec) *int { return &s.Tasks[i].Policy.Limit })
			expectField(t, s, 1, maxTick, func(s *api.Spec) *int { return &s.Tasks[i].Policy.Window })
			expectField(t, s, 1, maxTick, func(s *api.Spec) *int { return &s.Tasks[i].Policy.Base })
			expectField(t, s, 1, maxTick, func(s *api.Spec) *int { return &s.Tasks[i].Policy.Most })
			expectField(t, s, 0, probes, func(s *api.Spec) *int { return &s.Tasks[i].Probes })
			s.Tasks[i].Policy = span(5, 9)
			expectField(t, s, 1, 9, func(s *api.Spec) *int { return &s.Tasks[i].Policy.Base })
			expectField(t, s, 5, maxTick, func(s *api.Spec) *int { return &s.Tasks[i].Policy.Most })
			s.Tasks[i] = api.TaskSpec{}
			expectCheck(t, api.ErrRange, s)
		}
	}
}

func TestCheckOfAlways(t *testing.T) { // P13.1: it is valid in any case
	for _, s := range anything() {
		want := Check(s)
		for i := range s.Tasks {
			s.Tasks[i].Policy.Always = !s.Tasks[i].Policy.Always
			expectCheck(t, want, s)
		}
	}
}

// faulty calls f with specifications that have any of these faults together; the errors are those of their parts, in the order in which they are checked.
func faulty(f func(s api.Spec, errors []api.Errno)) {
	nine := []int{1, 2, 3, 4, 5, 6, 7, 8, 9}
	for _, id := range []int{7, -1, maxID + 1} {
		for _, amount := range []int{4, -1, maxRes + 1} {
			for _, ports := range [][]int{nil, {80}, {80, 80}, {0}, {5, 3, 0}, {0, 5, 3}, nine} {
				for n := range 7 {
					for _, policy := range []api.Policy{span(2, 8), span(9, 8)} {
						for _, fails := range []int{0, -1, probes + 1} {
							s := wideTasks(n)
							s.ID, s.Ports, s.Res.Disk = id, ports, amount
							e := []api.Errno{rangeError(id != 7), rangeError(amount != 4), wantPorts(ports), api.OK, api.OK}
							switch {
							case n == 0:
								e[3] = api.ErrArg
							case n > maxTasks:
								e[3] = api.ErrLong
							}
							if n > 0 {
								s.Tasks[n-1] = api.TaskSpec{Policy: policy, Probes: fails}
								e[4] = rangeError(policy.Base == 9 || fails != 0)
							}
							f(s, e)
						}
					}
				}
			}
		}
	}
}

func rangeError(wrong bool) api.Errno {
	if wrong {
		return api.ErrRange
	}
	return api.OK
}

func TestFirstError(t *testing.T) { // P13.1, R2
	found := map[api.Errno]int{}
	faulty(func(s api.Spec, errors []api.Errno) {
		want := api.OK
		for _, e := range slices.Backward(errors) {
			if e != api.OK {
				want = e
			}
		}
		expectCheck(t, want, s)
		found[want]++
	})
	for _, e := range []api.Errno{api.OK, api.ErrRange, api.ErrOrder, api.ErrLong, api.ErrArg} {
		if found[e] < 5 {
			t.Errorf("the errors are %v: badly chosen", found)
		}
	}
	long, none := make([]int, 9), []api.TaskSpec(nil)
	expectCheck(t, api.ErrRange, api.Spec{ID: -1, Res: api.Res{CPU: -1}, Ports: long, Tasks: none})
	expectCheck(t, api.ErrRange, api.Spec{Res: api.Res{CPU: -1}, Ports: long, Tasks: none})
	expectCheck(t, api.ErrLong, api.Spec{Ports: long, Tasks: none})
	expectCheck(t, api.ErrOrder, api.Spec{Ports: []int{5, 5}, Tasks: none})
	expectCheck(t, api.ErrRange, api.Spec{Ports: []int{0}, Tasks: none})
	expectCheck(t, api.ErrOrder, api.Spec{Ports: []int{5, 5}, Tasks: make([]api.TaskSpec, 5)})
	expectCheck(t, api.ErrArg, api.Spec{})
	expectCheck(t, api.ErrLong, api.Spec{Tasks: make([]api.TaskSpec, 5)})
	expectCheck(t, api.ErrRange, api.Spec{Tasks: make([]api.TaskSpec, 4)})
}

func TestCheckIsTheDefinition(t *testing.T) { // P13.1
	found := map[api.Errno]int{}
	g := generator()
	for _, s := range anything() {
		for range 20 {
			want := wantCheck(s)
			expectCheck(t, want, s)
			found[want]++
			s = spoiled(g, s)
		}
	}
	for _, e := range []api.Errno{api.OK, api.ErrRange, api.ErrOrder, api.ErrLong, api.ErrArg} {
		if found[e] < 100 {
			t.Errorf("the errors are %v: badly chosen", found)
		}
	}
}

// node returns the configuration of DOC.md's examples.
func node() api.Config {
	return api.Config{Cap: api.Res{CPU: 10, Mem: 10, Disk: 10}, Allocs: 2, Area: 48, Files: 2, Blocks: 2, Beat: 5, Lease: 10, Grace: 2, Wait: 3}
}

// setting is a field of a configuration, and the numbers that are valid for it in a configuration with much room.
type setting struct {
	field       func(c *api.Config) *int
	least, most int
}

func settings() []setting {
	return []setting{
		{func(c *api.Config) *int { return &c.Cap.CPU }, 0, maxRes},
		{func(c *api.Config) *int { return &c.Cap.Mem }, 0, maxRes},
		{func(c *api.Config) *int { return &c.Cap.Disk }, 0, maxRes},
		{func(c *api.Config) *int { return &c.Allocs }, 1, 8},
		{func(c *api.Config) *int { return &c.Area }, 48, 1024},
		{func(c *api.Config) *int { return &c.Files }, 2, 16},
		{func(c *api.Config) *int { return &c.Blocks }, 1, 64},
		{func(c *api.Config) *int { return &c.Beat }, 1, maxTick},
		{func(c *api.Config) *int { return &c.Lease }, 1, maxTick},
		{func(c *api.Config) *int { return &c.Grace }, 0, maxTick},
		{func(c *api.Config) *int { return &c.Wait }, 0, maxTick},
	}
}

// expectSetting says that each of these numbers in a field makes c valid, or not.
func expectSetting(t *testing.T, want api.Errno, c api.Config, field func(c *api.Config) *int, numbers []int) {
	t.Helper()
	for _, n := range numbers {
		*field(&c) = n
		expectConfig(t, want, c)
	}
}

func TestConfigOfEachField(t *testing.T) { // P13.2
	for _, s := range settings() {
		c := node()
		if s.most == allocs {
			c.Area = 1024
		}
		expectSetting(t, api.OK, c, s.field, valid(s.least, s.most))
		expectSetting(t, api.ErrRange, c, s.field, wrong(s.least, s.most))
	}
}

func TestConfigOfTheEnds(t *testing.T) { // P13.2: all fields as small, and as great, as may be
	small := api.Config{Allocs: 1, Area: 32, Files: 2, Blocks: 1, Beat: 1, Lease: 1}
	great := api.Config{Cap: api.Res{CPU: maxRes, Mem: maxRes, Disk: maxRes}, Allocs: 8, Area: 1024, Files: 16, Blocks: 64, Beat: maxTick, Lease: maxTick, Grace: maxTick, Wait: maxTick}
	expectConfig(t, api.OK, small)
	expectConfig(t, api.OK, great)
	expectConfig(t, api.ErrRange, api.Config{})
	for _, s := range settings() {
		least, most := *s.field(&small), *s.field(&great)
		expectSetting(t, api.ErrRange, small, s.field, []int{least - 1, most + 1})
		expectSetting(t, api.ErrRange, great, s.field, []int{least - 1, most + 1})
	}
}

func TestConfigOfArea(t *testing.T) { // P13.2
	for n, area := range []int{0, 32, 48, 64, 80, 96, 112, 128, 144} {
		if n == 0 {
			continue
		}
		c := node()
		c.Allocs = n
		field := func(c *api.Config) *int { return &c.Area }
		expectSetting(t, api.OK, c, field, valid(area, 1024))
		expectSetting(t, api.ErrRange, c, field, wrong(area, 1024))
		expectSetting(t, api.ErrRange, c, field, []int{area - 16, 16 * n, n, 0})
	}
	for _, n := range wrong(1, 8) { // no Area is enough, nor is that which the formula of Need says, or 0
		c := node()
		c.Allocs = n
		expectSetting(t, api.ErrRange, c, func(c *api.Config) *int { return &c.Area }, []int{0, 16, 32, 160, 1024, Need(n), 16 * (n + 1)})
	}
}

func TestConfigOfCapAndOthers(t *testing.T) { // P13.2: an error of Cap together with other faults
	for _, amount := range wrong(0, maxRes) {
		for i := range 3 {
			for _, s := range settings() {
				for _, n := range append(wrong(s.least, s.most), s.least, s.most) {
					c := node()
					*s.field(&c) = n
					*settings()[i].field(&c) = amount
					expectConfig(t, api.ErrRange, c)
				}
			}
		}
	}
}

func TestConfigIsTheDefinition(t *testing.T) { // P13.2: several things together
	found := map[api.Errno]int{}
	all := settings()
	for i, a := range all {
		for _, b := range all[i+1:] {
			for _, m := range append(valid(a.least, a.most), edges...) {
				for _, n := range append(valid(b.least, b.most), edges...) {
					c := node()
					*a.field(&c), *b.field(&c) = m, n
					want := wantConfig(c)
					expectConfig(t, want, c)
					found[want]++
				}
			}
		}
	}
	if found[api.OK] < 1000 || found[api.ErrRange] < 10000 || len(found) != 2 {
		t.Errorf("the errors are %v: badly chosen", found)
	}
}

func TestNeed(t *testing.T) { // P13.2
	for n, want := range []int{0, 32, 48, 64, 80, 96, 112, 128, 144, 0, 0} {
		if got := Need(n); got != want {
			t.Errorf("Need(%d) = %d, want %d", n, got, want)
		}
	}
	for _, n := range append(wrong(1, 8), 255, 256, 257, 1<<32+1, 1<<60, 1<<60+1, math.MaxInt/16, math.MinInt/16) {
		if got := Need(n); got != 0 {
			t.Errorf("Need(%d) = %d, want 0", n, got)
		}
	}
}

// changes returns specifications that differ from s in one thing each.
func changes(s api.Spec) []api.Spec {
	var all []api.Spec
	change := func(f func(c *api.Spec)) {
		c := clone(s)
		f(&c)
		all = append(all, c)
	}
	for i := range fields(&s) {
		for _, by := range []int{1, -1, 1 << 8, 1 << 16, 1 << 32, math.MinInt} {
			change(func(c *api.Spec) { *fields(c)[i] += by })
		}
	}
	for i := range s.Tasks {
		change(func(c *api.Spec) { c.Tasks[i].Policy.Always = !c.Tasks[i].Policy.Always })
		change(func(c *api.Spec) { c.Tasks = slices.Delete(c.Tasks, i, i+1) })
	}
	for i := range s.Ports {
		change(func(c *api.Spec) { c.Ports = slices.Delete(c.Ports, i, i+1) })
	}
	for _, port := range []int{0, 1, maxPort, -1} {
		change(func(c *api.Spec) { c.Ports = append(c.Ports, port) })
		change(func(c *api.Spec) { c.Ports = append([]int{port}, c.Ports...) })
	}
	change(func(c *api.Spec) { c.Tasks = append(c.Tasks, api.TaskSpec{}) })
	change(func(c *api.Spec) { c.Tasks = append(c.Tasks, ordinary().Tasks...) })
	return all
}

func expectEqual(t *testing.T, want bool, a, b api.Spec) {
	t.Helper()
	if Equal(a, b) != want || Equal(b, a) != want {
		t.Errorf("Equal(%+v, %+v) = %v, and %v the other way round, want %v", a, b, Equal(a, b), Equal(b, a), want)
	}
}

func TestEqual(t *testing.T) { // P13.4
	for _, s := range anything() {
		expectEqual(t, true, s, s)
		expectEqual(t, true, s, clone(s))
		for _, c := range changes(s) {
			if !same(s, c) { // which is so if a port was taken away that is equal to the one beside it
				expectEqual(t, false, s, c)
			} else {
				expectEqual(t, true, s, c)
			}
		}
	}
}

func TestEqualIsTheDefinition(t *testing.T) { // P13.4: any two specifications
	all := anything()
	for _, a := range all {
		for _, b := range all {
			expectEqual(t, same(a, b), a, b)
		}
	}
}

func TestEqualOfOtherOrders(t *testing.T) { // P13.4
	a, b := mixed(), mixed()
	slices.Reverse(b.Ports)
	expectEqual(t, false, a, b)
	slices.Reverse(b.Ports)
	expectEqual(t, true, a, b)
	slices.Reverse(b.Tasks)
	expectEqual(t, false, a, b)
	c := mixed()
	c.Res = api.Res{CPU: c.Res.Mem, Mem: c.Res.CPU, Disk: c.Res.Disk}
	expectEqual(t, false, a, c)
}

func TestEmptyLists(t *testing.T) { // P13.4, R3: nil and empty lists are the same
	for _, ports := range [][]int{nil, {}, make([]int, 0, 4), []int{1, 2}[:0]} {
		for _, tasks := range [][]api.TaskSpec{nil, {}, make([]api.TaskSpec, 0, 4), make([]api.TaskSpec, 2)[:0]} {
			s := api.Spec{ID: 7, Ports: ports, Tasks: tasks}
			expectEqual(t, true, s, api.Spec{ID: 7})
			expectEqual(t, false, s, api.Spec{})
			expectEqual(t, false, s, api.Spec{ID: 7, Ports: []int{0}})
			expectEqual(t, false, s, api.Spec{ID: 7, Tasks: make([]api.TaskSpec, 1)})
			if c := Copy(s); !same(c, s) || !Equal(c, s) {
				t.Errorf("Copy(%+v) = %+v", s, c)
			}
			expectCheck(t, api.ErrArg, s)
		}
	}
}

func TestCopy(t *testing.T) { // P13.4
	for _, s := range anything() {
		if c := Copy(s); !same(c, s) || !Equal(c, s) || !same(Copy(c), s) {
			t.Errorf("Copy(%+v) = %+v", s, c)
		}
	}
}

func TestLongLists(t *testing.T) { // P13.1, P13.4, R1
	const many = 1 << 18
	s := api.Spec{Ports: make([]int, many), Tasks: make([]api.TaskSpec, many)}
	for i := range many {
		s.Ports[i], s.Tasks[i].Probes = i, -i
	}
	expectCheck(t, api.ErrLong, s)
	c := Copy(s)
	if !same(c, s) || !Equal(c, s) {
		t.Error("a copy of long lists is not equal to them")
	}
	c.Ports[many-1]++
	if Equal(c, s) || same(c, s) {
		t.Error("the last port of a long list is not its own, or not compared")
	}
	c.Ports[many-1]--
	c.Tasks[many-1].Policy.Always = true
	if Equal(c, s) || same(c, s) {
		t.Error("the last task of a long list is not its own, or not compared")
	}
}

// inside returns s with lists that have other elements before and behind them in their memory, and what is there, the lists too.
func inside(s api.Spec) (part, memory api.Spec) {
	odd := api.TaskSpec{Policy: api.Policy{Limit: -77}, Probes: 5}
	memory.Ports = slices.Concat([]int{-11, 0}, s.Ports, []int{70000, -14, 5, 5, 5, 5, 5, 5, 5, 5, 5, 5})
	memory.Tasks = slices.Concat([]api.TaskSpec{odd}, s.Tasks, []api.TaskSpec{odd, {}, odd, odd, odd, odd})
	part = api.Spec{ID: s.ID, Res: s.Res, Ports: memory.Ports[2 : 2+len(s.Ports)], Tasks: memory.Tasks[1 : 1+len(s.Tasks)]}
	return part, memory
}

// scribble writes into all elements of the lists of s, and behind them.
func scribble(s api.Spec) {
	for i := range s.Ports {
		s.Ports[i] = -88
	}
	for i := range s.Tasks {
		s.Tasks[i] = api.TaskSpec{Policy: api.Policy{Always: true, Limit: -88}, Probes: -88}
	}
	_ = append(s.Ports, -89, -90, -91)
	_ = append(s.Tasks, make([]api.TaskSpec, 3)...)
}

func TestCopiesAreIndependent(t *testing.T) { // P13.4, R3
	for _, s := range anything() {
		part, memory := inside(s)
		before := clone(memory)
		first, second := Copy(part), Copy(part)
		scribble(second)
		if !same(memory, before) {
			t.Fatalf("what is written into a copy of %+v shows in it", s)
		}
		if !same(first, s) {
			t.Fatalf("what is written into a copy of %+v shows in another one", s)
		}
		scribble(memory)
		if !same(first, s) {
			t.Fatalf("what is written into %+v shows in its copy", s)
		}
	}
}

func TestArgumentsAreNotModified(t *testing.T) { // R3
	for _, s := range anything() {
		a, memory := inside(s)
		b, others := inside(s)
		before := clone(memory)
		Check(a)
		Encode(a)
		Copy(a)
		Equal(a, b)
		Equal(b, a)
		if !same(memory, before) || !same(others, before) {
			t.Fatalf("a function modifies %+v", s)
		}
	}
}

func TestListsEndWhereTheyEnd(t *testing.T) { // P13.1, P13.3, P13.4: what is behind them in memory is not seen
	for _, s := range anything() {
		part, _ := inside(s)
		expectCheck(t, wantCheck(s), part)
		expectEqual(t, true, part, s)
		if got := Copy(part); !same(got, s) {
			t.Errorf("Copy(%+v) = %+v", s, got)
		}
		expectEncode(t, part)
	}
}

func TestCallsKeepNothing(t *testing.T) { // R6
	bad := ordinary()
	bad.Tasks = nil
	for range 3 {
		expectCheck(t, api.OK, ordinary())
		expectEncode(t, largest())
		expectCheck(t, api.ErrArg, bad)
		expectEncode(t, bad)
		expectDecode(t, join(rowOf(mixed())...)+"x")
		expectDecode(t, "")
		expectDecode(t, join(rowOf(ordinary())...))
		expectConfig(t, api.ErrRange, api.Config{})
		expectConfig(t, api.OK, node())
		expectEqual(t, false, ordinary(), mixed())
		expectEqual(t, true, mixed(), Copy(mixed()))
	}
}
