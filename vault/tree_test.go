package vault

import (
	"fmt"
	"math/rand"
	"slices"
	"sort"
	"strings"
	"testing"

	"keystore/api"
	"keystore/disk"
)

// story: changes, the tree's shape behind their Commit, changes, shape, ..
type story struct {
	what  string
	steps []string
}

func play(t *testing.T, d *disk.Disk, v *Vault, c story) {
	t.Helper()
	for i := 0; i+1 < len(c.steps); i += 2 {
		done(t, v, c.steps[i])
		if got := tree(t, d, pass).shape(); got != c.steps[i+1] {
			t.Errorf("%s: behind %q %s, want %s", c.what, c.steps[i], got, c.steps[i+1])
		}
	}
}

// P12: transactions one behind the other, and the tree behind each.
func TestShapes(t *testing.T) {
	six := "a=1 b=1 c=1 d=1 e=1 f=1"
	for _, c := range []story{
		{"a root grows", []string{"a=1", "(a)", "b=1 c=1 d=1 e=1", "(a b c d e)", "f=1", "((a b c) (d e f))"}},
		{"six entries out of the middle", []string{"a=1 c=1 e=1 g=1 i=1", "(a c e g i)", "d=1", "((a c d) (e g i))"}},
		{"below the least key", []string{"b=1 c=1 d=1 e=1 f=1", "(b c d e f)", "a=1", "((a b c) (d e f))", "A=1", "((A a b c) (d e f))"}},
		{"between two leaves", []string{six, "((a b c) (d e f))", "cc=1", "((a b c cc) (d e f))"}},
		{"the order of keys, not of calls", []string{"g=1 f=1 e=1 d=1 c=1 b=1 a=1", "((a b c) (d e f g))"}},
		{"Delete ahead of Put", []string{"a=1 b=1 c=1 d=1 e=1", "(a b c d e)", "f=1 -a", "(b c d e f)"}},
		{"Put ahead of Delete", []string{"b=1 c=1 d=1 e=1 f=1", "(b c d e f)", "-f a=1", "((a b c) (d e))"}},
		{"a value that is the same", []string{six, "((a b c) (d e f))", "a=1", "((a b c) (d e f))"}},
		{"two entries are enough", []string{six, "((a b c) (d e f))", "-a", "((b c) (d e f))", "-f", "((b c) (d e))"}},
		{"one with three to the right; a root goes", []string{six, "((a b c) (d e f))", "-a -b", "(c d e f)"}},
		{"one with three to the left; a root goes", []string{six, "((a b c) (d e f))", "-f -e", "(a b c d)"}},
		{"five together are one", []string{six + " g=1", "((a b c) (d e f g))", "-a -b", "(c d e f g)"}},
		{"six together: from the right", []string{six + " g=1 h=1", "((a b c) (d e f g h))", "-a -b", "((c d) (e f g h))"}},
		{"six together: from the left", []string{six, "((a b c) (d e f))", "aa=1 ab=1", "((a aa ab b c) (d e f))", "-f -e", "((a aa ab b) (c d))"}},
		{"to the right, if there is one", []string{six + " g=1 h=1 i=1", "((a b c) (d e f) (g h i))", "-a j=1 k=1", "((b c) (d e f) (g h i j k))", "-d -f", "((b c) (e g) (h i j k))"}},
		{"the least key of a first child goes", []string{six + " g=1 h=1 i=1", "((a b c) (d e f) (g h i))", "-d", "((a b c) (e f) (g h i))", "-a", "((b c) (e f) (g h i))"}},
		{"a middle one becomes one with the right", []string{six + " g=1 h=1 i=1", "((a b c) (d e f) (g h i))", "-d -e", "((a b c) (f g h i))"}},
		{"the last becomes one with the left", []string{six + " g=1 h=1 i=1", "((a b c) (d e f) (g h i))", "-i -h", "((a b c) (d e f g))"}},
		{"all goes", []string{six, "((a b c) (d e f))", "-a -b -c -d -e -f", "", "-a", "", "a=2", "(a)", "-a", ""}},
		{"all goes from the right", []string{six, "((a b c) (d e f))", "-f -e -d", "(a b c)", "-c", "(a b)", "-b", "(a)", "-a", ""}},
		{"gone and back", []string{"a=1", "(a)", "-a b=1", "(b)", "-b", ""}},
	} {
		d, v := formatted(t, 48, 500)
		play(t, d, v, c)
	}
}

// P12: inner nodes become two, get a child from a neighbour, become one; a root of one child goes.
func TestInnerShapes(t *testing.T) {
	for _, c := range []story{
		{"six children", []string{"m=1 n=1 o=1", "((a b c) (d e f) (g h i) (j k l) (m n o))",
			"p=1 q=1", "((a b c) (d e f) (g h i) (j k l) (m n o p q))",
			"r=1", "(((a b c) (d e f) (g h i)) ((j k l) (m n o) (p q r)))"}},
		{"one child and three to the right", []string{"m=1 n=1 o=1 p=1 q=1 r=1", "(((a b c) (d e f) (g h i)) ((j k l) (m n o) (p q r)))",
			"-a -b -c -d", "(((e f) (g h i)) ((j k l) (m n o) (p q r)))",
			"-e", "((f g h i) (j k l) (m n o) (p q r))"}},
		{"one child and three to the left", []string{"m=1 n=1 o=1 p=1 q=1 r=1", "(((a b c) (d e f) (g h i)) ((j k l) (m n o) (p q r)))",
			"-r -q -p -o", "(((a b c) (d e f) (g h i)) ((j k l) (m n)))",
			"-n", "((a b c) (d e f) (g h i) (j k l m))"}},
		{"one child and five to the right", []string{otherTwelve, threeLevels,
			"-a -b -c -d -e", "(((f g h i) (j k l)) ((m n o) (p q r) (s t u) (v w x)))"}},
		{"one child and five to the left", []string{"m=1 n=1 o=1 p=1 q=1 r=1", "(((a b c) (d e f) (g h i)) ((j k l) (m n o) (p q r)))",
			"aa=1 ab=1 ac=1 ad=1 ae=1 af=1", "(((a aa ab) (ac ad ae) (af b c) (d e f) (g h i)) ((j k l) (m n o) (p q r)))",
			"-r -q -p -o -n", "(((a aa ab) (ac ad ae) (af b c) (d e f)) ((g h i) (j k l m)))"}},
		{"the least key of all", []string{"m=1 n=1 o=1 p=1 q=1 r=1", "(((a b c) (d e f) (g h i)) ((j k l) (m n o) (p q r)))",
			"A=1", "(((A a b c) (d e f) (g h i)) ((j k l) (m n o) (p q r)))",
			"-j", "(((A a b c) (d e f) (g h i)) ((k l) (m n o) (p q r)))"}},
	} {
		d, v := formatted(t, 48, 500)
		done(t, v, firstTwelve)
		play(t, d, v, c)
	}
}

// newOnes: the nodes of a tree that another has not.
func newOnes(now *page, before *page) []*page {
	var l []*page
	for _, n := range now.list() {
		if !slices.ContainsFunc(before.list(), func(o *page) bool { return o.digest == n.digest && o.place == n.place }) {
			l = append(l, n)
		}
	}
	return l
}

// P12: which nodes are new: those on the way, and a neighbour that gave or took; no others.
func TestNewNodes(t *testing.T) {
	for _, c := range []struct{ changes, fresh string }{
		{"b=1", "(a b c)"},
		{"b=2 c=3", "(a b c)"},
		{"b=2 e=2", "(a b c) (d e f)"},
		{"-b", "(a c)"},
		{"-a -b", "(c d e f)"},
		{"-d -e -zz", "(f g h i)"},
		{"-h", "(g i)"},
		{"-h -i", "(d e f g)"},
		{"0=1", "(0 a b c)"},
		{"z=1", "(v w x z)"},
		{"-aa b=1 -ba -zz", "(a b c)"},
	} {
		d, v := deep(t)
		before := tree(t, d, pass)
		done(t, v, c.changes)
		var leaves []string
		inner := 0
		for _, n := range newOnes(tree(t, d, pass), before) {
			if n.leaf {
				leaves = append(leaves, n.shape())
			} else {
				inner++
			}
		}
		if got := strings.Join(leaves, " "); got != c.fresh || inner != 2 {
			t.Errorf("behind %q new leaves %s and %d inner nodes, want %s and 2", c.changes, got, inner, c.fresh)
		}
	}
}

// lowestFree: the lowest places from 2 on at which no node of a tree lies.
func lowestFree(d *disk.Disk, p *page) []int {
	used := map[int]bool{}
	for _, n := range p.list() {
		used[n.place] = true
	}
	var l []int
	for k := 2; k < d.Blocks(); k++ {
		if !used[k] {
			l = append(l, k)
		}
	}
	return l
}

// checkWrites: P11: new nodes were written children first, from the left, each at the lowest free place, as pages of the session that follow one another; then the slot.
func checkWrites(t *testing.T, d *disk.Disk, before *page, since int, sealed uint32) uint32 {
	t.Helper()
	now := tree(t, d, pass)
	fresh, free := newOnes(now, before), lowestFree(d, before)
	wrote := d.Wrote[since:]
	if len(wrote) != len(fresh)+1 {
		t.Fatalf("%d writes, %d new nodes: %s, then %s", len(wrote), len(fresh), before.shape(), now.shape())
	}
	for i, n := range fresh {
		sealed++
		if n.place != free[i] || wrote[i].At != n.place || n.nth != sealed || n.session != 2 {
			t.Fatalf("the new node %s: place %d (want %d, written %d), the %d-th (want %d)", n.shape(), n.place, free[i], wrote[i].At, n.nth, sealed)
		}
	}
	if at := wrote[len(fresh)].At; at != d.Tally()%2 {
		t.Fatalf("the slot is in block %d", at)
	}
	return sealed
}

// game: a vault, and what must be in it.
type game struct {
	d      *disk.Disk
	v      *Vault
	kept   map[string]string
	asked  map[string]*string // nil: deleted
	sealed uint32
}

// behind: all pairs, as they are behind the transaction.
func (g *game) behind() string {
	all := map[string]string{}
	for k, s := range g.kept {
		all[k] = s
	}
	for k, s := range g.asked {
		delete(all, k)
		if s != nil {
			all[k] = *s
		}
	}
	var l []api.Pair
	for k, s := range all {
		l = append(l, api.Pair{Key: k, Value: s})
	}
	sort.Slice(l, func(i, j int) bool { return l[i].Key < l[j].Key })
	return words(l)
}

// changes: some calls of Put and Delete, out of so many keys.
func (g *game) changes(t *testing.T, r *rand.Rand, keys int) {
	t.Helper()
	for n := r.Intn(14); n > 0; n-- {
		k := fmt.Sprintf("%c%d", 'a'+r.Intn(keys), r.Intn(3))
		s := fmt.Sprint(r.Intn(1000))
		_, there := g.asked[k]
		wanted := api.OK
		if !there && len(g.asked) == 12 {
			wanted = api.ErrOps
		}
		if r.Intn(5) < 2 {
			want(t, "Delete "+k, g.v.Delete(k), wanted)
			if wanted == api.OK {
				g.asked[k] = nil
			}
			continue
		}
		want(t, "Put "+k, g.v.Put(k, s), wanted)
		if wanted == api.OK {
			g.asked[k] = &s
		}
	}
}

// commit: a Commit, and all that can be seen of it; false: it was refused.
func (g *game) commit(t *testing.T) bool {
	t.Helper()
	before, since, all := tree(t, g.d, pass), len(g.d.Wrote), g.behind()
	e := g.v.Commit()
	now := tree(t, g.d, pass)
	if e == api.ErrSession || e == api.ErrSpace {
		if len(g.d.Wrote) != since || now.shape() != before.shape() {
			t.Fatalf("a Commit that was refused (%d) wrote", e)
		}
		checkScan(t, g.v, "", "z", all)
		return false
	}
	want(t, "Commit", e, api.OK)
	if words(now.pairs()) != all {
		t.Fatalf("the tree has %s, want %s", words(now.pairs()), all)
	}
	if len(g.d.Wrote) > since {
		g.sealed = checkWrites(t, g.d, before, since, g.sealed)
	}
	g.kept, g.asked = map[string]string{}, map[string]*string{}
	for _, p := range now.pairs() {
		g.kept[p.Key] = p.Value
	}
	return true
}

// P10, P11, P12: transactions at random, against a list of what must be there.
func TestAtRandom(t *testing.T) {
	refused, kept := 0, 0
	for seed := int64(1); seed <= 60; seed++ {
		r := rand.New(rand.NewSource(seed))
		d, v := formatted(t, []int{4, 8, 14, 48}[seed%4], 500)
		g := &game{d: d, v: v, kept: map[string]string{}, asked: map[string]*string{}}
		keys := 2 + r.Intn(14)
		for i := 0; i < 14; i++ {
			g.changes(t, r, keys)
			checkScan(t, v, "", "z", g.behind())
			if g.commit(t) {
				kept++
				continue
			}
			refused++
			if r.Intn(2) == 0 {
				want(t, "Abort", v.Abort(), api.OK)
				g.asked = map[string]*string{}
			}
		}
	}
	if refused < 20 || kept < 200 {
		t.Errorf("%d refused, %d kept: too few to tell", refused, kept)
	}
}
