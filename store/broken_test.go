package store

import (
	"encoding/binary"
	"fmt"
	"hash/crc32"
	"math/rand"
	"slices"
	"strings"
	"testing"

	"keyway/api"
	"keyway/disk"
	"keyway/node"
	"keyway/pager"
)

// laid is a sector by the words of the chapters alone.
func laid(p api.Page) string {
	body := make([]byte, 252)
	body[0] = byte(p.Kind)
	binary.LittleEndian.PutUint32(body[1:], uint32(p.Number))
	binary.LittleEndian.PutUint64(body[5:], p.Gen)
	binary.LittleEndian.PutUint16(body[13:], uint16(len(p.Data)))
	copy(body[15:], p.Data)
	return string(binary.LittleEndian.AppendUint32(body, crc32.ChecksumIEEE(body)))
}

// stateSector is the sector of a state by the words of the chapters alone.
func stateSector(gen uint64, root int) string {
	data := string(binary.AppendUvarint(nil, uint64(root+1)))
	return laid(api.Page{Kind: 1, Number: int(gen % 2), Gen: gen, Data: data})
}

// built is a disk whose committed state has these pages, from page 2 on.
func built(t *testing.T, root int, pages ...api.Page) *disk.Disk {
	t.Helper()
	d := made(t, 20)
	d.Write(0, stateSector(2, root))
	for at, p := range pages {
		p.Number, p.Gen = states+at, 2
		d.Write(states+at, laid(p))
	}
	if e := d.Flush(); e != api.OK {
		t.Fatalf("Flush = %d", e)
	}
	return d
}

// inline is a key's text that stands in its leaf; long, one of so many bytes that begin in a page.
func inline(text string) api.Val    { return api.Val{Data: text, Page: -1} }
func long(at int, many int) api.Val { return api.Val{Page: at, Len: many} }

// leaf is a leaf of keys a, b, c, .. and what they have.
func leaf(vals ...api.Val) api.Page {
	n := api.Node{Leaf: true, Vals: vals}
	for at := range vals {
		n.Keys = append(n.Keys, string(rune('a'+at)))
	}
	return api.Page{Kind: api.PageLeaf, Data: node.Put(n)}
}

// inner is an inner node of kids between which keys k, l, m, .. stand.
func inner(kids ...int) api.Page {
	n := api.Node{Kids: kids}
	for at := 1; at < len(kids); at++ {
		n.Keys = append(n.Keys, string(rune('j'+at)))
	}
	return api.Page{Kind: api.PageInner, Data: node.Put(n)}
}

// link is a page of a chain; next is -1 of the last one.
func link(next int, bytes string) api.Page {
	return api.Page{Kind: api.PageChain, Data: string(binary.AppendUvarint(nil, uint64(next+1))) + bytes}
}

// Promise 13.1: Open of a disk that is laid by hand: ErrPage, if a page is used twice, or is not what it must be; nothing is written then.
func TestOpenOfBrokenDisks(t *testing.T) {
	full := strings.Repeat("f", part)
	tail := link(-1, full[:66])  // of 66 bytes
	head := link(2, full)        // of 300 bytes, if the tail is in page 2
	short := leaf(inline("one")) // of a alone
	for _, c := range []struct {
		name  string
		root  int
		pages []api.Page
		left  int // if it can be opened
		err   api.Errno
	}{
		{"nothing", -1, nil, 18, api.OK},
		{"pages that are not told of", -1, []api.Page{tail, head}, 18, api.OK},
		{"a leaf", 2, []api.Page{short}, 17, api.OK},
		{"a chain of one page", 3, []api.Page{tail, leaf(long(2, 66))}, 16, api.OK},
		{"a chain of two", 4, []api.Page{tail, head, leaf(long(3, 300))}, 15, api.OK},
		{"an inner node", 4, []api.Page{short, leaf(inline("other")), inner(2, 3)}, 15, api.OK},
		{"two chains", 4, []api.Page{tail, tail, leaf(long(2, 66), long(3, 66))}, 15, api.OK},

		{"one leaf twice", 3, []api.Page{short, inner(2, 2)}, 0, api.ErrPage},
		{"one leaf twice, further apart", 4, []api.Page{short, short, inner(2, 3, 2)}, 0, api.ErrPage},
		{"one leaf below two nodes", 7, []api.Page{short, short, short, inner(2, 3), inner(4, 3), inner(5, 6)}, 0, api.ErrPage},
		{"a node below itself", 3, []api.Page{short, inner(2, 3)}, 0, api.ErrPage},
		{"a ring of nodes", 3, []api.Page{short, inner(2, 4), inner(2, 3)}, 0, api.ErrPage},
		{"one chain of two keys", 3, []api.Page{tail, leaf(long(2, 66), long(2, 66))}, 0, api.ErrPage},
		{"one chain of two keys, with one between", 3, []api.Page{tail, leaf(long(2, 66), inline("x"), long(2, 66))}, 0, api.ErrPage},
		{"one chain of two leaves", 5, []api.Page{tail, leaf(long(2, 66)), leaf(long(2, 66)), inner(3, 4)}, 0, api.ErrPage},
		{"the rest of a chain", 4, []api.Page{tail, head, leaf(long(3, 300), long(2, 66))}, 0, api.ErrPage},
		{"the rest of a chain, ahead of it", 4, []api.Page{tail, head, leaf(long(2, 66), long(3, 300))}, 0, api.ErrPage},
		{"two chains of one rest", 5, []api.Page{tail, head, head, leaf(long(3, 300), long(4, 300))}, 0, api.ErrPage},
		{"a leaf as a chain", 2, []api.Page{leaf(long(2, 66))}, 0, api.ErrPage},
		{"a chain as a leaf", 2, []api.Page{tail}, 0, api.ErrPage},
		{"a chain below a node", 4, []api.Page{tail, short, inner(3, 2)}, 0, api.ErrPage},
		{"a ring of a chain", 4, []api.Page{link(3, full), link(2, full), leaf(long(2, 3*part))}, 0, api.ErrPage},

		{"fewer bytes than a chain has", 4, []api.Page{tail, head, leaf(long(3, 299))}, 0, api.ErrPage},
		{"more bytes than a chain has", 4, []api.Page{tail, head, leaf(long(3, 301))}, 0, api.ErrPage},
		{"a chain in a state's sector", 2, []api.Page{leaf(long(1, 66))}, 0, api.ErrPage},
		{"a chain behind the disk", 2, []api.Page{leaf(long(20, 66))}, 0, api.ErrPage},
		{"a chain in noughts", 2, []api.Page{leaf(long(9, 66))}, 0, api.ErrPage},
		{"a leaf in noughts", 9, []api.Page{short}, 0, api.ErrPage},
		{"a state's sector as a leaf", 0, []api.Page{short}, 0, api.ErrPage},
		{"the other state's sector as a leaf", 1, []api.Page{short}, 0, api.ErrPage},
		{"a kid in a state's sector", 3, []api.Page{short, inner(2, 0)}, 0, api.ErrPage},
		{"a leaf behind the disk", 20, []api.Page{short}, 0, api.ErrRange},
		{"a kid behind the disk", 3, []api.Page{short, inner(2, 20)}, 0, api.ErrRange},
		{"a leaf that says no node", 2, []api.Page{{Kind: api.PageLeaf, Data: "\x02"}}, 0, api.ErrPage},
		{"an inner node that says none", 2, []api.Page{{Kind: api.PageInner, Data: ""}}, 0, api.ErrPage},
	} {
		d := built(t, c.root, c.pages...)
		before := sectors(d)
		t.Log(c.name)
		if c.err != api.OK {
			refusesOpen(t, d, c.err)
		} else {
			opened(t, d).told(2, c.left)
		}
		if !slices.Equal(sectors(d), before) {
			t.Errorf("%s: Open wrote on the disk", c.name)
		}
	}
}

// Promise 13.1: what was laid by hand is read.
func TestOpenOfDisksByHand(t *testing.T) {
	full := strings.Repeat("f", part)
	last := api.Page{Kind: api.PageLeaf, Data: node.Put(api.Node{Leaf: true, Keys: []string{"k", "z"}, Vals: []api.Val{long(3, 300), inline("")}})}
	d := built(t, 6, link(-1, "tail"+full[:62]), link(2, full), leaf(inline("one"), inline("two")), last, inner(4, 5))
	x := opened(t, d)
	want := map[string]string{"a": "one", "b": "two", "k": full + "tail" + full[:62], "z": ""}
	x.told(2, 13)
	x.all(want)
	x.deletes("k", true)
	x.puts("z", "now")
	x.commits()
	x = x.again()
	x.told(3, 17) // one leaf is enough for what is left
	x.all(map[string]string{"a": "one", "b": "two", "z": "now"})
}

// Errors of the layers below: a torn page is told, whichever one it is.
func TestOpenOfTornDisks(t *testing.T) {
	const pages = 1 + 5 + 2
	for at := range pages {
		x := until(t, 30, func(x *bench) {
			x.puts("a", textOf(1000))
			x.puts("b", textOf(300))
			x.commits()
		}, api.Cut{At: stateActs + pages + 1, Fates: []int{api.FateTorn}})
		x.d.Write(pagesOf(t, x.d)[at], "x")
		x.fails()
		x.d.Up()
		refusesOpen(t, x.d, api.ErrTorn)
	}
}

// R1: whatever pages say, nothing panics, and all ends.
func TestAnyDisk(t *testing.T) {
	isOpen := 0
	for seed := range int64(3000) {
		r := rand.New(rand.NewSource(seed))
		d := anyDisk(t, r)
		s, e := Open(d)
		if e != api.OK {
			if s != nil {
				t.Fatal("a store beside an error")
			}
			continue
		}
		isOpen++
		for range 40 {
			key := fmt.Sprint(r.Intn(30))
			switch r.Intn(6) {
			case 0, 1:
				s.Put(key, textOf(r.Intn(400)))
			case 2, 3:
				s.Delete(key)
			case 4:
				s.Keys(key, above, r.Intn(20))
			case 5:
				if s.Commit() != api.OK {
					s.Undo()
				}
			}
			s.Get(key)
		}
	}
	if isOpen < 300 {
		t.Errorf("%d of these disks were opened", isOpen)
	}
}

// anyDisk is a disk that a store wrote, some pages of which were changed.
func anyDisk(t *testing.T, r *rand.Rand) *disk.Disk {
	x := begun(t, 40)
	for range r.Intn(60) {
		if x.s.Put(fmt.Sprint(r.Intn(30)), textOf(r.Intn(100))) != api.OK {
			x.s.Undo()
		}
	}
	x.s.Commit()
	p, e := pager.Open(x.d)
	if e != api.OK {
		t.Fatal(e)
	}
	for range 1 + r.Intn(3) {
		n := states + r.Intn(20)
		was, e := p.Read(n, api.PageLeaf, api.PageInner, api.PageChain)
		if e != api.OK || was.Data == "" {
			continue
		}
		bytes := []byte(was.Data)
		for range 1 + r.Intn(2) {
			bytes[r.Intn(len(bytes))] = byte(r.Intn(1 << (1 + r.Intn(8))))
		}
		if r.Intn(3) == 0 { // another page as a whole
			other, e := p.Read(states+r.Intn(20), api.PageLeaf, api.PageInner, api.PageChain)
			if e == api.OK {
				bytes, was.Kind = []byte(other.Data), other.Kind
			}
		}
		was.Data = string(bytes)
		x.d.Write(n, laid(was))
	}
	x.d.Flush()
	return x.d
}
