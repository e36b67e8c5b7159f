package vault

import (
	"fmt"
	"slices"
	"strings"
	"testing"

	"keystore/api"
	"keystore/disk"
)

// stopped: a call, and what it does: C Count, D Draw, R Read, W Write, F Flush, B Bump, one behind the other.
type stopped struct {
	what       string
	lay        func(t *testing.T) (*disk.Disk, *Vault)
	call       func(v *Vault) (string, api.Errno)
	operations string
	slot       int    // which operation writes the slot that names the new tree; ahead: it was written before
	old, new   string // what is found without that slot, and with it
}

const (
	never = 1000
	ahead = -1
)

func reads(n int) string { return strings.Repeat("R", n) }

// pages: a Commit that reads and writes so many.
func pages(read int, written int) string { return reads(read) + strings.Repeat("W", written) + "FWFB" }

// over: a vault behind these Commits, with a transaction.
func over(asked string, commits ...string) func(t *testing.T) (*disk.Disk, *Vault) {
	return func(t *testing.T) (*disk.Disk, *Vault) {
		t.Helper()
		d, v := formatted(t, 48, 500)
		for _, c := range commits {
			done(t, v, c)
		}
		ask(t, v, asked)
		return d, v
	}
}

// closed: the same, but closed.
func closed(lay func(t *testing.T) (*disk.Disk, *Vault)) func(t *testing.T) (*disk.Disk, *Vault) {
	return func(t *testing.T) (*disk.Disk, *Vault) {
		t.Helper()
		d, v := lay(t)
		want(t, "Close", v.Close(), api.OK)
		return d, v
	}
}

// underWay: the same, and of its Commit so many operations work.
func underWay(n int, lay func(t *testing.T) (*disk.Disk, *Vault)) func(t *testing.T) (*disk.Disk, *Vault) {
	return func(t *testing.T) (*disk.Disk, *Vault) {
		t.Helper()
		d, v := lay(t)
		d.Fuse(n)
		want(t, "Commit", v.Commit(), api.ErrDown)
		d.Fuse(-1)
		return d, v
	}
}

func commit(v *Vault) (string, api.Errno) { return "", v.Commit() }
func open(v *Vault) (string, api.Errno)   { return "", v.Open(pass) }

func scanOf(lo string, hi string) func(v *Vault) (string, api.Errno) {
	return func(v *Vault) (string, api.Errno) {
		l, e := v.Scan(lo, hi)
		return words(l), e
	}
}

// calls: every call that does operations, but Format.
func calls() []stopped {
	const all = firstTwelve + " " + otherTwelve
	const five, six = "a=1 b=1 c=1 d=1 e=1", "a=1 b=1 c=1 d=1 e=1 f=1"
	deep := func(asked string) func(t *testing.T) (*disk.Disk, *Vault) {
		return over(asked, firstTwelve, otherTwelve)
	}
	get := func(v *Vault) (string, api.Errno) { return v.Get("c") }
	return []stopped{
		{"Get", deep("a=2 -b"), get, reads(3), never, all, ""},
		{"Get out of one leaf", over("a=2", five), get, "R", never, five, ""},
		{"Scan of all", deep("a=2 -b"), scanOf("", "z"), reads(11), never, all, ""},
		{"Scan of two leaves", deep("a=2 -b"), scanOf("c", "d"), reads(4), never, all, ""},
		{"Commit of nothing", deep("-aa -zz"), commit, reads(5), never, all, ""},
		{"the first Commit", over("a=1"), commit, pages(0, 1), 2, "", "a=1"},
		{"a value", over("a=2", five), commit, pages(1, 1), 3, five, "a=2" + five[3:]},
		{"a root that becomes two", over("f=1", five), commit, pages(1, 3), 5, five, six},
		{"two ways", deep("a=2 x=2"), commit, pages(5, 5), 11, all, "a=2" + all[3:len(all)-1] + "2"},
		{"leaves that become one", deep("-a -b"), commit, pages(4, 3), 8, all, all[8:]},
		{"inner nodes that are mended", deep("-a -b -c -d -e"), commit, pages(6, 4), 11, all, all[20:]},
		{"a root that goes", over("-e -f", six), commit, pages(3, 1), 5, six, six[:15]},
		{"a tree that goes", over("-a", "a=1"), commit, pages(1, 0), 2, "a=1", ""},
		{"Open of nothing", closed(over("")), open, "CRRWFBWFB", never, "", ""},
		{"Open of one leaf", closed(over("b=1", "a=1")), open, "CRRRWFBWFB", never, "a=1", ""},
		{"Open of three levels", closed(deep("zz=1")), open, "CRR" + reads(11) + "WFBWFB", never, all, ""},
		{"Open behind a page that was written", underWay(2, over("a=2", "a=1")), open, "CRRRWFBWFB", never, "a=1", ""},
		{"Open behind a slot that was written", underWay(4, over("a=2", "a=1")), open, "CRRRFBWFB", ahead, "a=1", "a=2"},
		{"Open behind a slot that was kept", underWay(5, over("a=2", "a=1")), open, "CRRRFBWFB", never, "a=2", ""},
	}
}

// seen: all blocks.
func seen(d *disk.Disk) []string {
	var l []string
	for k := range d.Blocks() {
		l = append(l, d.Look(k))
	}
	return l
}

// device: what the operations of a call leave, by the document alone.
type device struct {
	kept  []string
	cache map[int]string
	bumps int
	wrote int
}

// before: the device ahead of the call.
func (s stopped) before(t *testing.T) *device {
	t.Helper()
	d, _ := s.lay(t)
	m := &device{cache: map[int]string{}}
	now := seen(d)
	d.Crash("")
	m.kept = seen(d)
	for k := range now {
		if now[k] != m.kept[k] {
			m.cache[k] = now[k]
		}
	}
	return m
}

// run: so many operations work; texts: what is written one behind the other.
func (m *device) run(operations string, texts []disk.Written) {
	for _, o := range operations {
		switch o {
		case 'W':
			m.cache[texts[m.wrote].At] = texts[m.wrote].Text
			m.wrote++
		case 'F':
			for k, b := range m.cache {
				m.kept[k] = b
			}
			clear(m.cache)
		case 'B':
			m.bumps++
		}
	}
}

// crash: the blocks behind a crash that keeps these sectors.
func (m *device) crash(kept string) []string {
	l := slices.Clone(m.kept)
	at := 0
	for k := range l {
		b, there := m.cache[k]
		if !there {
			continue
		}
		if at < len(kept) && kept[at]&1 == 1 {
			l[k] = b[:128] + l[k][128:]
		}
		if at < len(kept) && kept[at]&2 == 2 {
			l[k] = l[k][:128] + b[128:]
		}
		at++
	}
	return l
}

// someSectors: what a crash may keep of so many blocks: anything of two at most; of more: all, none, each sector alone, all but each.
func someSectors(blocks int) []string {
	if blocks <= 2 {
		return choices(blocks)
	}
	none, all := make([]byte, blocks), make([]byte, blocks)
	for i := range all {
		all[i] = 3
	}
	l := []string{string(none), string(all)}
	for i := range all {
		for b := byte(1); b <= 2; b++ {
			none[i], all[i] = b, b
			l = append(l, string(none), string(all))
			none[i], all[i] = 0, 3
		}
	}
	return l
}

// isNew: is the new tree found behind so many operations and a crash?
func (s stopped) isNew(n int, kept string) bool {
	if n <= s.slot {
		return false
	}
	return strings.Contains(s.operations[s.slot+1:n], "F") || len(kept) > 0 && kept[0]&1 == 1
}

// stop: the call, when so many operations work: what it answers, how many it did, and what is gone.
func (s stopped) stop(t *testing.T, n int, full []disk.Written) *disk.Disk {
	t.Helper()
	d, v := s.lay(t)
	since, tally := len(d.Wrote), d.Tally()
	m := s.before(t)
	m.run(s.operations[:n], full)
	d.Fuse(n)
	answer, e := s.call(v)
	want(t, fmt.Sprintf("%s, %d operations", s.what, n), e, downBelow(n, len(s.operations)))
	if _, works := d.Count(); works {
		t.Fatalf("%s, %d operations: they were not all done", s.what, n)
	}
	if !slices.Equal(d.Wrote[since:], full[:m.wrote]) || d.Tally() != tally+m.bumps {
		t.Fatalf("%s, %d operations: %d writes, the counter is %d", s.what, n, len(d.Wrote)-since, d.Tally())
	}
	if n < len(s.operations) {
		if answer != "" || v.changes != nil || v.keys != (keys{}) || v.root != (link{}) {
			t.Fatalf("%s, %d operations: %q; the vault has %+v", s.what, n, answer, *v)
		}
		closedCalls(t, v)
		want(t, "Open", v.Open(pass), api.ErrDown)
		want(t, "Format", v.Format(pass), api.ErrDown)
	}
	return d
}

// finds: another vault over the world finds this, and works.
func finds(t *testing.T, what string, d *disk.Disk, wanted string) {
	t.Helper()
	v := Of(d)
	want(t, what+": Open", v.Open(pass), api.OK)
	if got := found(t, v); got != wanted {
		t.Fatalf("%s: found %s, want %s", what, got, wanted)
	}
	for k := 'a'; k <= 'z'; k++ {
		_, after, there := strings.Cut(" "+wanted+" ", " "+string(k)+"=")
		value, _, _ := strings.Cut(after, " ")
		e := api.ErrNone
		if there {
			e = api.OK
		}
		checkGet(t, v, string(k), value, e)
	}
	if n := spent(d, func() { want(t, what+": Commit of nothing", v.Commit(), api.OK) }); n != 0 {
		t.Fatalf("%s: the transaction is not gone", what)
	}
	done(t, v, "zz=1")
	v = again(t, d, v)
	if got := found(t, v); got != strings.TrimSpace(wanted+" zz=1") {
		t.Fatalf("%s: found %s a session later", what, got)
	}
}

// P15, P7, P10, P11, P13: every call with a device that stops at each of its operations; behind it a crash, or a device that works again.
func TestEveryStop(t *testing.T) {
	for _, s := range calls() {
		d, v := s.lay(t)
		since := len(d.Wrote)
		_, e := s.call(v)
		want(t, s.what, e, api.OK)
		full := d.Wrote[since:]
		for n := 0; n <= len(s.operations); n++ {
			m := s.before(t)
			m.run(s.operations[:n], full)
			tree := func(kept string) string {
				if s.isNew(n, kept) {
					return s.new
				}
				return s.old
			}
			for _, kept := range someSectors(len(m.cache)) {
				d := s.stop(t, n, full)
				d.Crash(kept)
				what := fmt.Sprintf("%s, %d operations, a crash that keeps %x", s.what, n, kept)
				if !slices.Equal(seen(d), m.crash(kept)) {
					t.Fatalf("%s: the blocks are others", what)
				}
				finds(t, what, d, tree(kept))
			}
			d := s.stop(t, n, full)
			d.Fuse(-1)
			finds(t, fmt.Sprintf("%s, %d operations, no crash", s.what, n), d, tree("\x01"))
		}
	}
}

// P15, P8, P13: whenever a Format stops: the elder vault opens up to the first Bump, the new one as soon as its first slot is there.
func TestEveryStopOfFormat(t *testing.T) {
	const operations = "CDWFBWFB"
	for n := 0; n <= len(operations); n++ {
		for _, kept := range append(choices(1), "no crash") {
			for _, p := range []string{pass, "new"} {
				d, v := closed(over("b=1", "a=1"))(t)
				d.Lay("new salt")
				d.Fuse(n)
				want(t, "Format", v.Format("new"), downBelow(n, len(operations)))
				if v.IsOpen() != (n == len(operations)) {
					t.Fatalf("%d operations: open is %v", n, v.IsOpen())
				}
				d.Fuse(-1)
				slotThere := n >= 4 || n == 3 && kept == "no crash"
				if kept != "no crash" {
					d.Crash(kept)
					slotThere = n >= 4 || n == 3 && kept[0]&1 == 1
				}
				e, all := api.OK, "a=1"
				if p == pass && n >= 5 || p != pass && !slotThere {
					e = api.ErrTampered
				}
				if p != pass {
					all = ""
				}
				v = Of(d)
				want(t, fmt.Sprintf("%d operations, %q, Open(%q)", n, kept, p), v.Open(p), e)
				if e == api.OK {
					checkScan(t, v, "", "z", all)
				}
			}
		}
	}
}

// P15, P9, P10: where no operation is needed, none can fail: the vault stays open.
func TestNothingToFail(t *testing.T) {
	d, v := deep(t)
	long := strings.Repeat("x", 41)
	d.Fuse(0)
	ask(t, v, "a=2 -b zz=3")
	checkGet(t, v, "a", "2", api.OK)
	checkGet(t, v, "b", "", api.ErrNone)
	checkGet(t, v, "", "", api.ErrKey)
	checkScan(t, v, "b", "a", "")
	want(t, "Put", v.Put("a", long), api.ErrValue)
	want(t, "Format", v.Format(long), api.ErrOpen)
	want(t, "Open", v.Open(long), api.ErrOpen)
	want(t, "Abort", v.Abort(), api.OK)
	want(t, "Commit of nothing", v.Commit(), api.OK)
	if !v.IsOpen() {
		t.Error("it is closed")
	}
	want(t, "Close", v.Close(), api.OK)
	want(t, "Format", v.Format(long), api.ErrArg)
	want(t, "Open", v.Open(long), api.ErrArg)

	d, v = formatted(t, 5, 50)
	d.Fuse(0)
	checkGet(t, v, "a", "", api.ErrNone)
	checkScan(t, v, "", "z", "")
	ask(t, v, "-a -b")
	want(t, "Commit out of no tree", v.Commit(), api.OK)
	if !v.IsOpen() {
		t.Error("it is closed")
	}
}

// P15, P11: a Commit that is refused needs its Reads alone; with one fewer it is ErrDown.
func TestRefusedOrDown(t *testing.T) {
	full := func(t *testing.T) (*disk.Disk, *Vault) {
		d, v := formatted(t, 6, 500)
		done(t, v, "a=1 b=1 c=1 d=1 e=1 f=1")
		return d, v
	}
	for _, c := range []struct {
		e     api.Errno
		reads int
		lay   func(t *testing.T) (*disk.Disk, *Vault)
	}{
		{api.ErrCounter, 3, func(t *testing.T) (*disk.Disk, *Vault) {
			d, v := formatted(t, 48, 3)
			done(t, v, "a=1 b=1 c=1 d=1 e=1 f=1")
			return d, v
		}},
		{api.ErrSpace, 3, full},
		{api.ErrSession, 3, func(t *testing.T) (*disk.Disk, *Vault) {
			d, v := formatted(t, 8, 500)
			for range 37 {
				done(t, v, "a=1")
			}
			done(t, v, "b=1 c=1 d=1 e=1 f=1")
			return d, v
		}},
		{api.ErrTampered, 2, func(t *testing.T) (*disk.Disk, *Vault) {
			d, v := full(t)
			d.Poke(tree(t, d, pass).below[0].place, "")
			return d, v
		}},
	} {
		for n := 0; n <= c.reads; n++ {
			d, v := c.lay(t)
			ask(t, v, "a=2 f=2")
			state, tally := writes(d), d.Tally()
			d.Fuse(n)
			wanted := c.e
			if n < c.reads {
				wanted = api.ErrDown
			}
			want(t, fmt.Sprintf("error %d, %d operations", c.e, n), v.Commit(), wanted)
			if v.IsOpen() != (n == c.reads) || (len(v.changes) == 2) != (n == c.reads) || writes(d) != state || d.Tally() != tally {
				t.Errorf("error %d, %d operations: open is %v, %d changes, %s", c.e, n, v.IsOpen(), len(v.changes), writes(d))
			}
		}
	}
}
