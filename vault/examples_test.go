package vault

import (
	"strings"
	"testing"

	"keystore/api"
	"keystore/disk"
)

// row: the counter and the writes that the document tells.
func row(t *testing.T, d *disk.Disk, tally int, wrote string) {
	t.Helper()
	if d.Tally() != tally || writes(d) != wrote {
		t.Errorf("the counter is %d, writes %s, want %d, %s", d.Tally(), writes(d), tally, wrote)
	}
}

// The document's table of examples: a world of 12 blocks, ceiling 50.
func TestExamples(t *testing.T) {
	d, v := world(t, 12, 50)
	want(t, "Commit", v.Commit(), api.ErrClosed)
	want(t, "Put", v.Put("a", "1"), api.ErrClosed)
	checkGet(t, v, "a", "", api.ErrClosed)
	want(t, "Format", v.Format(strings.Repeat("x", 41)), api.ErrArg)
	row(t, d, 0, "0 e3b0c44298fc1c14")
	want(t, "Format", v.Format(strings.Repeat("x", 40)), api.OK)
	row(t, d, 2, "2 ed9a202f8e0ef536")
	want(t, "Format", v.Format("pw"), api.ErrOpen)
	want(t, "Put", v.Put("12345678", "0123456789abcdef"), api.OK)
	want(t, "Put", v.Put("a", ""), api.OK)
	want(t, "Put", v.Put("", "1"), api.ErrKey)
	want(t, "Put", v.Put("123456789", "1"), api.ErrKey)
	want(t, "Put", v.Put("a", "0123456789abcdefg"), api.ErrValue)
	checkScan(t, v, "", "z", "12345678=0123456789abcdef a=")
	row(t, d, 2, "2 ed9a202f8e0ef536")
	want(t, "Commit", v.Commit(), api.OK)
	row(t, d, 3, "4 b83c76355a67aae9")
	want(t, "Commit", v.Commit(), api.OK)
	done(t, v, "-zz")
	row(t, d, 3, "4 b83c76355a67aae9")
	done(t, v, "a=")
	row(t, d, 4, "6 74450fa14ec7791a")
	done(t, v, "-a -12345678")
	row(t, d, 5, "7 f26cc8b24833aaf9")
	ask(t, v, firstTwelve)
	want(t, "Put", v.Put("m", "1"), api.ErrOps)
	row(t, d, 5, "7 f26cc8b24833aaf9")
	done(t, v, "a=2 -l")
	row(t, d, 6, "12 45587bf1604237d2")
}

// The document's other examples.
func TestOtherExamples(t *testing.T) {
	d, v := world(t, 3, 50)
	want(t, "Format", v.Format(""), api.OK)
	done(t, v, "a=1")
	ask(t, v, "a=2")
	want(t, "Commit", v.Commit(), api.ErrSpace)
	checkGet(t, v, "a", "2", api.OK)
	want(t, "Abort", v.Abort(), api.OK)
	checkGet(t, v, "a", "1", api.OK)
	done(t, v, "-a")

	_, v = world(t, 12, 4)
	want(t, "Format", v.Format(pass), api.OK)
	done(t, v, "a=1")
	done(t, v, "a=1")
	ask(t, v, "a=1")
	want(t, "Commit", v.Commit(), api.ErrCounter)
	_, v = world(t, 12, 1)
	want(t, "Format", v.Format(pass), api.ErrCounter)

	_, v = formatted(t, 12, 500)
	for i := 0; i < 40; i++ {
		done(t, v, "k=1")
	}
	ask(t, v, "k=1")
	want(t, "Commit", v.Commit(), api.ErrSession)

	d, v = world(t, 8, 50)
	want(t, "Format", v.Format("p"), api.OK)
	ask(t, v, "a=1")
	d.Fuse(3)
	want(t, "Commit", v.Commit(), api.ErrDown)
	if len(d.Wrote) != 4 || v.IsOpen() {
		t.Errorf("%d writes, open is %v", len(d.Wrote), v.IsOpen())
	}
	d.Fuse(6)
	want(t, "Open", v.Open("p"), api.ErrDown)
	d.Crash("")
	v = Of(d)
	want(t, "Open", v.Open("p"), api.OK)
	checkGet(t, v, "a", "1", api.OK)
}

// The document's last example: slots that are turned back.
func TestElderSlots(t *testing.T) {
	d, v := world(t, 8, 50)
	want(t, "Format", v.Format("p"), api.OK)
	want(t, "Close", v.Close(), api.OK)
	d.Poke(1, d.Wrote[0].Text)
	want(t, "block 1 as it was", v.Open("p"), api.OK)

	d, v = world(t, 8, 50)
	want(t, "Format", v.Format("p"), api.OK)
	want(t, "Close", v.Close(), api.OK)
	d.Poke(0, d.Wrote[0].Text)
	refused(t, "the slot of version 1 in block 0", d, v, "p", api.ErrTampered)

	d, v = world(t, 8, 50)
	want(t, "Format", v.Format("p"), api.OK)
	done(t, v, "a=1")
	v = Of(d)
	want(t, "Open", v.Open("p"), api.OK)
	done(t, v, "a=2")
	want(t, "Close", v.Close(), api.OK)
	d.Poke(0, d.Wrote[1].Text)
	refused(t, "the slot of version 2 again", d, v, "p", api.ErrTampered)
	d.Poke(0, d.Wrote[4].Text)
	refused(t, "the slot of version 4 again", d, v, "p", api.ErrTampered)
}
