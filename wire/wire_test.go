package wire

import (
	"math"
	"slices"
	"strings"
	"testing"

	"keyway/api"
)

const greatest = math.MaxUint64

// around is the numbers at which a form gets longer, and their neighbours, in order.
func around() []uint64 {
	numbers := []uint64{0, greatest}
	for bit := range 64 {
		n := uint64(1) << bit
		numbers = append(numbers, n-1, n, n+1, n|n>>1, n|n>>3)
	}
	slices.Sort(numbers)
	return slices.Compact(numbers)
}

// state holds a reader against what it must be.
func state(t *testing.T, name string, r *Reader, err api.Errno, left int) {
	t.Helper()
	if r.Err() != err || r.Left() != left {
		t.Errorf("%s: error %d, left %d; not %d, %d", name, r.Err(), r.Left(), err, left)
	}
}

// spent holds that a reader says nothing any more, and keeps its error.
func spent(t *testing.T, name string, r *Reader, err api.Errno) {
	t.Helper()
	for range 2 {
		state(t, name, r, err, 0)
		if n := r.Num(greatest); n != 0 {
			t.Errorf("%s: Num behind an error = %d", name, n)
		}
		for _, n := range []int{0, 1, -1, math.MaxInt, math.MinInt} {
			if s := r.Take(n); s != "" {
				t.Errorf("%s: Take(%d) behind an error = %q", name, n, s)
			}
			if m := r.Fixed(n); m != 0 {
				t.Errorf("%s: Fixed(%d) behind an error = %d", name, n, m)
			}
			if s := r.Text(n); s != "" {
				t.Errorf("%s: Text(%d) behind an error = %q", name, n, s)
			}
		}
		if e := r.End(); e != err {
			t.Errorf("%s: End behind an error = %d, not %d", name, e, err)
		}
		r.Fail(99)
		r.Fail(api.OK)
	}
}

func TestNum(t *testing.T) {
	for _, c := range []struct {
		n    uint64
		form string
	}{
		{0, "\x00"},
		{1, "\x01"},
		{127, "\x7f"},
		{128, "\x80\x01"},
		{129, "\x81\x01"},
		{255, "\xff\x01"},
		{300, "\xac\x02"},
		{1<<14 - 1, "\xff\x7f"},
		{1 << 14, "\x80\x80\x01"},
		{1<<63 - 1, "\xff\xff\xff\xff\xff\xff\xff\xff\x7f"},
		{1 << 63, "\x80\x80\x80\x80\x80\x80\x80\x80\x80\x01"},
		{greatest, "\xff\xff\xff\xff\xff\xff\xff\xff\xff\x01"},
	} {
		if form := Num(c.n); form != c.form {
			t.Errorf("Num(%d) = %x, not %x", c.n, form, c.form)
		}
	}
}

func TestText(t *testing.T) {
	long := strings.Repeat("x", 127)
	great := strings.Repeat("y", api.MostText+1)
	for _, c := range []struct{ s, form string }{
		{"", "\x00"},
		{"ab", "\x02ab"},
		{"\x00\xff", "\x02\x00\xff"},
		{"ä", "\x02\xc3\xa4"},
		{long, "\x7f" + long},
		{long + "x", "\x80\x01" + long + "x"},
		{strings.Repeat("z", 300), "\xac\x02" + strings.Repeat("z", 300)},
		{great, "\x81\x80\x04" + great},
	} {
		if form := Text(c.s); form != c.form {
			t.Errorf("Text of %d bytes = %x", len(c.s), form)
		}
	}
}

func TestKey(t *testing.T) {
	for _, c := range []struct {
		n   uint64
		key string
	}{
		{0, "\x00"},
		{1, "\x01\x01"},
		{255, "\x01\xff"},
		{256, "\x02\x01\x00"},
		{258, "\x02\x01\x02"},
		{1<<16 - 1, "\x02\xff\xff"},
		{1 << 16, "\x03\x01\x00\x00"},
		{1<<56 - 1, "\x07\xff\xff\xff\xff\xff\xff\xff"},
		{1 << 56, "\x08\x01\x00\x00\x00\x00\x00\x00\x00"},
		{0x0102030405060708, "\x08\x01\x02\x03\x04\x05\x06\x07\x08"},
		{greatest, "\x08\xff\xff\xff\xff\xff\xff\xff\xff"},
	} {
		if key := Key(c.n); key != c.key {
			t.Errorf("Key(%d) = %x, not %x", c.n, key, c.key)
		}
	}
}

func TestKeysStandInOrder(t *testing.T) {
	numbers := around()
	for i := 1; i < len(numbers); i++ {
		if a, b := numbers[i-1], numbers[i]; Key(a) >= Key(b) {
			t.Errorf("the key of %d is not below that of %d", a, b)
		}
	}
}

func TestUnkey(t *testing.T) {
	for _, n := range around() {
		for _, behind := range []string{"", "\x00", "ab", "\x01\x02", strings.Repeat("\xff", 9)} {
			m, left, ok := Unkey(Key(n) + behind)
			if m != n || left != behind || !ok {
				t.Errorf("Unkey of the key of %d and %x = %d, %x, %v", n, behind, m, left, ok)
			}
		}
	}
}

func TestUnkeyOfWhatIsNoKey(t *testing.T) {
	wrong := []string{
		"",
		"\x01\x00",
		"\x01\x00\x01",
		"\x02\x00\x01",
		"\x02\x00\x01ab",
		"\x08\x00\x01\x02\x03\x04\x05\x06\x07",
		"\x09\x01\x02\x03\x04\x05\x06\x07\x08\x09",
		"\x09" + strings.Repeat("\x01", 20),
		"\x80" + strings.Repeat("\x01", 200),
		"\xff" + strings.Repeat("\x01", 300),
		"abc",
	}
	for _, n := range around() {
		key := Key(n)
		for short := range len(key) {
			wrong = append(wrong, key[:short])
		}
	}
	for _, s := range wrong {
		if n, left, ok := Unkey(s); n != 0 || left != "" || ok {
			t.Errorf("Unkey(%x) = %d, %x, %v", s, n, left, ok)
		}
	}
}

func TestFixed(t *testing.T) {
	const n = 0x0102030405060708
	const all = "\x08\x07\x06\x05\x04\x03\x02\x01"
	for bytes := 0; bytes <= 8; bytes++ {
		if low := Fixed(n, bytes); low != all[:bytes] {
			t.Errorf("Fixed of %d bytes = %x", bytes, low)
		}
		if low := Fixed(0, bytes); low != strings.Repeat("\x00", bytes) {
			t.Errorf("Fixed of 0 in %d bytes = %x", bytes, low)
		}
		if low := Fixed(greatest, bytes); low != strings.Repeat("\xff", bytes) {
			t.Errorf("Fixed of the greatest in %d bytes = %x", bytes, low)
		}
	}
	for _, bytes := range []int{-1, -8, math.MinInt} {
		if low := Fixed(n, bytes); low != "" {
			t.Errorf("Fixed of %d bytes = %x", bytes, low)
		}
	}
	for _, bytes := range []int{9, 16, 1 << 40, math.MaxInt} {
		if low := Fixed(n, bytes); low != all {
			t.Errorf("Fixed of %d bytes = %x", bytes, low)
		}
	}
}

func TestNewReadsFromTheBeginning(t *testing.T) {
	for _, s := range []string{"", "a", "abc", strings.Repeat("z", 1000)} {
		r := New(s)
		state(t, s, r, api.OK, len(s))
		if got := r.Take(len(s)); got != s {
			t.Errorf("all of %q = %q", s, got)
		}
		state(t, s, r, api.OK, 0)
		if e := r.End(); e != api.OK {
			t.Errorf("End of %q = %d", s, e)
		}
	}
}

func TestReadersAreApart(t *testing.T) {
	a, b := New("ab"), New("ab")
	a.Take(1)
	a.Fail(7)
	state(t, "the other", b, api.OK, 2)
}

func TestReaderNum(t *testing.T) {
	for _, n := range around() {
		form := Num(n)
		for _, most := range []uint64{n, greatest} {
			r := New(form + "\x80b")
			if m := r.Num(most); m != n {
				t.Errorf("Num up to %d of %x = %d, not %d", most, form, m, n)
			}
			state(t, "a number", r, api.OK, 2)
		}
		if n > 0 {
			r := New(form + "ab")
			if m := r.Num(n - 1); m != 0 {
				t.Errorf("%d up to %d = %d", n, n-1, m)
			}
			spent(t, "above its limit", r, api.ErrOver)
		}
		for short := range len(form) {
			r := New(form[:short])
			if m := r.Num(greatest); m != 0 {
				t.Errorf("%x cut short = %d", form[:short], m)
			}
			spent(t, "cut short", r, api.ErrShort)
		}
	}
}

func TestReaderNumOfOneBehindAnother(t *testing.T) {
	numbers := around()
	var all strings.Builder
	for _, n := range numbers {
		all.WriteString(Num(n))
	}
	r := New(all.String())
	for _, n := range numbers {
		if m := r.Num(n); m != n {
			t.Errorf("%d read as %d", n, m)
		}
	}
	if e := r.End(); e != api.OK {
		t.Errorf("End = %d", e)
	}
}

func TestReaderNumErrors(t *testing.T) {
	nine := strings.Repeat("\x80", 9)
	ones := strings.Repeat("\xff", 9)
	for _, c := range []struct {
		name, s string
		most    uint64
		err     api.Errno
	}{
		{"nothing", "", greatest, api.ErrShort},
		{"nothing, up to 0", "", 0, api.ErrShort},
		{"one byte that goes on", "\x80", greatest, api.ErrShort},
		{"one byte that goes on, up to 0", "\xff", 0, api.ErrShort},
		{"nine bytes that go on", nine, greatest, api.ErrShort},
		{"nine bytes of ones that go on", ones, greatest, api.ErrShort},
		{"0 in two bytes", "\x80\x00", greatest, api.ErrForm},
		{"1 in two bytes", "\x81\x00", greatest, api.ErrForm},
		{"300 in three bytes", "\xac\x82\x00", greatest, api.ErrForm},
		{"0 in ten bytes", nine + "\x00", greatest, api.ErrForm},
		{"the 65th bit", nine + "\x02", greatest, api.ErrForm},
		{"all bits of ten bytes", ones + "\x7f", greatest, api.ErrForm},
		{"the 65th bit and the 64th", ones + "\x03", greatest, api.ErrForm},
		{"eleven bytes", nine + "\x80\x01", greatest, api.ErrForm},
		{"eleven bytes, the tenth one that of the greatest", ones + "\x81\x01", greatest, api.ErrForm},
		{"0 in eleven bytes", nine + "\x80\x00", greatest, api.ErrForm},
		{"a hundred bytes", strings.Repeat("\x80", 100) + "\x01", greatest, api.ErrForm},
		{"not its form and above", "\x85\x00", 4, api.ErrForm},
		{"not its form and above, of more bytes", "\xac\x82\x00", 4, api.ErrForm},
		{"above 64 bits and above", ones + "\x7f", 4, api.ErrForm},
		{"above 64 bits and cut short", nine + "\x80", greatest, api.ErrForm},
		{"above 64 bits, cut short and above", ones + "\xff", 0, api.ErrForm},
		{"above", "\x05", 4, api.ErrOver},
		{"above, of two bytes", "\x80\x01", 127, api.ErrOver},
		{"the greatest", ones + "\x01", greatest - 1, api.ErrOver},
	} {
		for _, ahead := range []string{"", "ab"} {
			r := New(ahead + c.s)
			r.Take(len(ahead))
			if n := r.Num(c.most); n != 0 {
				t.Errorf("%s: %d", c.name, n)
			}
			spent(t, c.name, r, c.err)
		}
	}
}

func TestTake(t *testing.T) {
	const s = "a\x00\xffz"
	for n := 0; n <= len(s); n++ {
		r := New(s)
		if got := r.Take(n); got != s[:n] {
			t.Errorf("Take(%d) = %q", n, got)
		}
		state(t, "some", r, api.OK, len(s)-n)
		if got := r.Take(len(s) - n); got != s[n:] {
			t.Errorf("what is behind %d = %q", n, got)
		}
		state(t, "all", r, api.OK, 0)
	}
	for _, n := range []int{-1, math.MinInt, len(s) + 1, math.MaxInt} {
		r := New(s)
		if got := r.Take(n); got != "" {
			t.Errorf("Take(%d) = %q", n, got)
		}
		spent(t, "Take of what is not there", r, api.ErrShort)
	}
}

func TestTakeOfTheEnd(t *testing.T) {
	r := New("ab")
	r.Take(2)
	if got := r.Take(0); got != "" {
		t.Errorf("Take(0) = %q", got)
	}
	state(t, "at the end", r, api.OK, 0)
	if got := r.Take(1); got != "" {
		t.Errorf("Take(1) = %q", got)
	}
	spent(t, "behind the end", r, api.ErrShort)
}

func TestReaderFixed(t *testing.T) {
	const n = 0x0102030405060708
	for bytes := 0; bytes <= 8; bytes++ {
		low := uint64(0)
		if bytes > 0 {
			low = n << (64 - 8*bytes) >> (64 - 8*bytes)
		}
		r := New(Fixed(n, bytes) + "ab")
		if m := r.Fixed(bytes); m != low {
			t.Errorf("Fixed of %d bytes = %x, not %x", bytes, m, low)
		}
		state(t, "some", r, api.OK, 2)
	}
	r := New(Fixed(greatest, 8))
	if m := r.Fixed(8); m != greatest {
		t.Errorf("the greatest = %x", m)
	}
}

func TestReaderFixedOfTooFewOrTooMany(t *testing.T) {
	const n = 0x0102030405060708
	for _, bytes := range []int{-1, math.MinInt} {
		r := New("ab")
		if m := r.Fixed(bytes); m != 0 {
			t.Errorf("Fixed of %d bytes = %x", bytes, m)
		}
		state(t, "below 0 counts as 0", r, api.OK, 2)
	}
	for _, bytes := range []int{9, math.MaxInt} {
		r := New(Fixed(n, 8) + "ab")
		if m := r.Fixed(bytes); m != n {
			t.Errorf("Fixed of %d bytes = %x", bytes, m)
		}
		state(t, "above 8 counts as 8", r, api.OK, 2)
	}
}

func TestReaderFixedCutShort(t *testing.T) {
	for bytes := 1; bytes <= 9; bytes++ {
		for short := range min(bytes, 8) {
			r := New(strings.Repeat("\x01", short))
			if m := r.Fixed(bytes); m != 0 {
				t.Errorf("Fixed of %d bytes of %d = %x", bytes, short, m)
			}
			spent(t, "Fixed cut short", r, api.ErrShort)
		}
	}
}

func TestReaderText(t *testing.T) {
	for _, n := range []int{0, 1, 2, 127, 128, 300, api.MostText - 1, api.MostText} {
		s := strings.Repeat("\xf0", n)
		for _, most := range []int{n, n + 1, api.MostText, api.MostText + 1, math.MaxInt} {
			r := New(Text(s) + "ab")
			if got := r.Text(most); got != s {
				t.Errorf("a text of %d up to %d has %d bytes", n, most, len(got))
			}
			state(t, "a text", r, api.OK, 2)
		}
		r := New(Text(s) + "ab")
		if got := r.Text(n - 1); got != "" {
			t.Errorf("a text of %d up to one less has %d bytes", n, len(got))
		}
		spent(t, "a text above most", r, api.ErrOver)
	}
}

func TestReaderTextErrors(t *testing.T) {
	great := strings.Repeat("x", api.MostText+1)
	for _, c := range []struct {
		name, s string
		most    int
		err     api.Errno
	}{
		{"nothing", "", 9, api.ErrShort},
		{"nothing, up to 0", "", 0, api.ErrShort},
		{"cut short", "\x03ab", 9, api.ErrShort},
		{"no byte of it", "\x01", 9, api.ErrShort},
		{"how many cut short", "\x80", 9, api.ErrShort},
		{"above most", "\x03abc", 2, api.ErrOver},
		{"above most and cut short", "\x03ab", 2, api.ErrOver},
		{"above 0", "\x01a", 0, api.ErrOver},
		{"above fewer than 0", "\x00", -1, api.ErrOver},
		{"above the fewest", "\x01a", math.MinInt, api.ErrOver},
		{"above MostText", Text(great), api.MostText + 1, api.ErrOver},
		{"above MostText, up to all", Text(great), math.MaxInt, api.ErrOver},
		{"above MostText and cut short", Num(api.MostText + 1), math.MaxInt, api.ErrOver},
		{"the greatest and cut short", Num(greatest) + "ab", math.MaxInt, api.ErrOver},
		{"half of the greatest", Num(1<<63) + "ab", math.MaxInt, api.ErrOver},
		{"how many not in its form", "\x81\x00a", 9, api.ErrForm},
		{"how many not in its form, above most", "\x81\x00a", 0, api.ErrForm},
		{"how many not in its form, fewer than 0", "\x81\x00a", -1, api.ErrForm},
		{"how many above 64 bits", strings.Repeat("\xff", 9) + "\x02", math.MaxInt, api.ErrForm},
	} {
		r := New(c.s)
		if got := r.Text(c.most); got != "" {
			t.Errorf("%s: %d bytes", c.name, len(got))
		}
		spent(t, c.name, r, c.err)
	}
}

func TestFailAheadOfAnotherError(t *testing.T) {
	for _, e := range []api.Errno{api.ErrInput, api.ErrMore, api.ErrTorn, 99, -1, math.MinInt} {
		r := New("abcdef")
		r.Take(1)
		r.Fail(e)
		spent(t, "Fail ahead", r, e)
	}
}

func TestFailBehindAnotherError(t *testing.T) {
	r := New("\x80")
	r.Num(9)
	r.Fail(api.ErrInput)
	state(t, "Fail behind ErrShort", r, api.ErrShort, 0)

	r = New("abc")
	r.Fail(api.ErrTorn)
	r.Fail(api.ErrInput)
	state(t, "Fail behind Fail", r, api.ErrTorn, 0)
}

func TestFailOfNone(t *testing.T) {
	r := New("abc")
	r.Fail(api.OK)
	state(t, "Fail of OK", r, api.OK, 3)
	r.Fail(api.ErrTorn)
	r.Fail(api.OK)
	state(t, "Fail of OK behind another", r, api.ErrTorn, 0)
}

func TestFailAtTheEnd(t *testing.T) {
	r := New("")
	r.Fail(api.ErrTorn)
	spent(t, "Fail at the end", r, api.ErrTorn)
}

func TestEnd(t *testing.T) {
	r := New("ab")
	for left := 2; left > 0; left-- {
		for range 2 {
			if e := r.End(); e != api.ErrMore {
				t.Errorf("End with %d left = %d", left, e)
			}
			state(t, "End only asks", r, api.OK, left)
		}
		r.Take(1)
	}
	for range 2 {
		if e := r.End(); e != api.OK {
			t.Errorf("End at the end = %d", e)
		}
	}
}

func TestEndBehindAnError(t *testing.T) {
	r := New("\x05abc")
	r.Num(4)
	if e := r.End(); e != api.ErrOver {
		t.Errorf("End behind an error, with bytes that were left = %d", e)
	}
}

func TestNilReader(t *testing.T) {
	var r *Reader
	spent(t, "nil", r, api.ErrShort)
	r.Fail(api.ErrTorn)
	spent(t, "nil behind Fail", r, api.ErrShort)
}

func TestAllKindsBehindOneAnother(t *testing.T) {
	form := Num(300) + Text("ab") + Fixed(513, 2) + "xyz" + Text("") + Num(0)
	r := New(form)
	if n := r.Num(300); n != 300 {
		t.Errorf("Num = %d", n)
	}
	if s := r.Text(2); s != "ab" {
		t.Errorf("Text = %q", s)
	}
	if n := r.Fixed(2); n != 513 {
		t.Errorf("Fixed = %d", n)
	}
	if s := r.Take(3); s != "xyz" {
		t.Errorf("Take = %q", s)
	}
	if s := r.Text(0); s != "" {
		t.Errorf("Text of nothing = %q", s)
	}
	if n := r.Num(0); n != 0 {
		t.Errorf("Num of 0 = %d", n)
	}
	if e := r.End(); e != api.OK {
		t.Errorf("End = %d", e)
	}
}
