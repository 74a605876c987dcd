package tests

import (
	"encoding/binary"
	"hash/crc32"
	"math/rand/v2"
	"slices"
	"strconv"
	"strings"
	"testing"

	"loop.example/g00617/impl"
)

// Promise 15: after a loss of power between any two steps, whatever part of the
// unsynchronized data is kept, the log contains what it had at the last
// synchronization, followed by a prefix of the lines since.

const (
	maxFrameData = 100000
	maxFrames    = 300

	stOk    = 0
	stDisk  = 1
	stNone  = 2
	stForm  = 3
	stFull  = 4
	stPower = 5
	stTorn  = 6
	stNot   = 8

	acNew   = 1
	acWrite = 2
	acOpen  = 3
	acCrash = 4
)

// frameText is the model of FrameOf, also for data that are too long.
func frameText(data string) string {
	out := binary.BigEndian.AppendUint32(nil, uint32(len(data)))
	out = binary.LittleEndian.AppendUint32(out, crc32.ChecksumIEEE([]byte(data)))
	return string(out) + data
}

// framesIn is the model of TakeFrames.
func framesIn(s string) ([]string, int64) {
	var out []string
	at := 0
	for len(s)-at >= 8 {
		head, data := []byte(s[at:at+8]), s[at+8:]
		n := int(binary.BigEndian.Uint32(head))
		if n > maxFrameData || n > len(data) || crc32.ChecksumIEEE([]byte(data[:n])) != binary.LittleEndian.Uint32(head[4:]) {
			break
		}
		out = append(out, data[:n])
		at += 8 + n
	}
	return out, int64(at)
}

// A logged is the model of what the frames of a log that count result in.
type logged struct {
	s          store
	count, end int
}

func logFrom(log string) logged {
	l := logged{s: store{}}
	all, _ := framesIn(log)
	for i, data := range all[:min(len(all), maxFrames)] {
		number, text, _ := strings.Cut(data, " ")
		x, ok := lineFrom(text)
		s, written := l.s.written(x)
		if number != strconv.Itoa(i) || !ok || !written {
			break
		}
		l = logged{s: s, count: i + 1, end: l.end + 8 + len(data)}
	}
	return l
}

// logOf returns the log of the texts of these lines.
func logOf(texts ...string) string {
	var out strings.Builder
	for i, text := range texts {
		out.WriteString(frameText(strconv.Itoa(i) + " " + text))
	}
	return out.String()
}

// logTexts returns the texts of n lines of three series.
func logTexts(n int) []string {
	var out []string
	for _, x := range lines(n) {
		out = append(out, lineText(x))
	}
	return out
}

// withLog returns a drive on which this log is synchronized.
func withLog(log string) drive {
	return driveOf(fileSet{"log": log})
}

// A runner is the model of how an action is performed: as long as there is
// power, which is without limit if it is negative.
type runner struct {
	d     drive
	power int64
}

// An ending is the code with which an action ends before its last step.
type ending int64

func (r *runner) step(next drive, code int64) {
	if r.power == 0 {
		panic(ending(stPower))
	}
	if code != dkOk {
		panic(ending(stFull))
	}
	if r.power > 0 {
		r.power--
	}
	r.d = next
}

func (r *runner) do(op impl.DOp) {
	r.step(r.d.done(op))
}

func (r *runner) sync() {
	r.step(driveOf(r.d.live), dkOk)
}

func (r *runner) open() int64 {
	log, found := r.d.live["log"]
	if !found {
		return stNone
	}
	end := logFrom(log).end
	if end == len(log) {
		return stOk
	}
	if _, found := r.d.live["log.new"]; found {
		r.do(removed("log.new"))
	}
	r.do(appended("log.new", log[:end]))
	r.sync()
	r.do(renamed("log.new", "log"))
	r.sync()
	return stOk
}

func (r *runner) write(a impl.Act) int64 {
	log, found := r.d.live["log"]
	l := logFrom(log)
	_, valid := lineFrom(lineText(a.Line))
	_, written := l.s.written(a.Line)
	switch {
	case !found:
		return stNone
	case !valid:
		return stForm
	case l.end < len(log):
		return stTorn
	case !written:
		return stNot
	case l.count == maxFrames:
		return stFull
	}
	r.do(appended("log", frameText(strconv.Itoa(l.count)+" "+lineText(a.Line))))
	if a.Sync {
		r.sync()
	}
	return stOk
}

// acted is the model of StoreDo.
func (d drive) acted(a impl.Act) (out drive, code int64) {
	start, r := d, runner{d: d, power: a.Power}
	defer func() {
		if e, ok := recover().(ending); ok {
			out, code = start, int64(e)
			if code == stPower {
				out = r.d
			}
		}
	}()
	_, exists := d.live["log"]
	switch {
	case a.Kind == acNew && !exists:
		r.do(appended("log", ""))
		r.sync()
	case a.Kind == acWrite:
		code = r.write(a)
	case a.Kind == acOpen:
		code = r.open()
	case a.Kind == acCrash:
		crashed, ok := d.crashed(a.Keep, a.Torn)
		if !ok {
			return d, stForm
		}
		start, r.d = crashed, crashed
		code = r.open()
	default:
		code = stForm
	}
	return r.d, code
}

// wantActed reports that StoreDo does not do what the model does, or with
// another code, and returns the drive after it.
func wantActed(t *testing.T, d drive, a impl.Act, code int64) drive {
	t.Helper()
	want, wantCode := d.acted(a)
	got, c := impl.StoreDo(d.disk(), a)
	if c != code || wantCode != code {
		t.Fatalf("%s on %s: got %d, the model %d, want %d", short(a), short(d), c, wantCode, code)
	}
	wantDisk(t, got, want)
	return want
}

// wantSame is wantActed with whatever code the model has, which it returns.
func wantSame(t *testing.T, d drive, a impl.Act) (drive, int64) {
	t.Helper()
	_, code := d.acted(a)
	return wantActed(t, d, a, code), code
}

// wantUnmoved reports an action that has another code, or changes the disk.
func wantUnmoved(t *testing.T, d drive, a impl.Act, code int64) {
	t.Helper()
	wantDisk(t, wantActed(t, d, a, code).disk(), d)
}

func wantView(t *testing.T, d drive) {
	t.Helper()
	got, code := impl.StoreView(d.disk())
	log, found := d.live["log"]
	if !found {
		if code != stNone || len(got.Series) > 0 {
			t.Fatalf("%s: got %v, %d", short(d), got, code)
		}
		return
	}
	wantDb(t, got, code == stOk, logFrom(log).s.db())
}

func wantFrames(t *testing.T, s string, want []string, end int) {
	t.Helper()
	if got, n := impl.TakeFrames(s); !slices.Equal(got, want) || n != int64(end) {
		t.Fatalf("%.200q: got %.200q, %d; want %.200q, %d", s, got, n, want, end)
	}
	if got, n := framesIn(s); !slices.Equal(got, want) || n != int64(end) {
		t.Fatalf("%.200q: the model returns %.200q, %d; want %.200q, %d", s, got, n, want, end)
	}
}

func newAct(power int64) impl.Act {
	return impl.Act{Kind: acNew, Power: power}
}

func openAct(power int64) impl.Act {
	return impl.Act{Kind: acOpen, Power: power}
}

// writeAct has a line that is not valid if the text is none.
func writeAct(text string, sync bool, power int64) impl.Act {
	x, _ := lineFrom(text)
	return impl.Act{Kind: acWrite, Line: x, Sync: sync, Power: power}
}

func crashAct(keep []int64, torn, power int64) impl.Act {
	return impl.Act{Kind: acCrash, Keep: keep, Torn: torn, Power: power}
}

func TestConstantsOfStores(t *testing.T) {
	got := []int{impl.StOk, impl.StDisk, impl.StNone, impl.StForm, impl.StFull, impl.StPower, impl.StTorn, impl.StNot, impl.AcNew, impl.AcWrite, impl.AcOpen, impl.AcCrash}
	if want := []int{0, 1, 2, 3, 4, 5, 6, 8, 1, 2, 3, 4}; !slices.Equal(got, want) {
		t.Error(got)
	}
}

func TestFrameExamples(t *testing.T) {
	f := impl.FrameOf("abc")
	if f != "\x00\x00\x00\x03\xc2\x41\x24\x35abc" {
		t.Errorf("%q", f)
	}
	if f := impl.FrameOf(""); f != "\x00\x00\x00\x00\x00\x00\x00\x00" {
		t.Errorf("%q", f)
	}
	wantFrames(t, f+f+"x", []string{"abc", "abc"}, 22)
	wantFrames(t, "", nil, 0)
	wantFrames(t, "x"+f, nil, 0)
}

func TestFramesOfAllLengths(t *testing.T) {
	r := numbers()
	for _, n := range []int{0, 1, 2, 3, 7, 8, 9, 127, 128, 254, 255, 256, 257, 4999, 5000, 5001, 9999, 10000, 10001, 65535, 65536, 65537, maxFrameData - 1, maxFrameData} {
		for _, data := range []string{strings.Repeat("\x00", n), strings.Repeat("\xff", n), randomDigits(r, n)} {
			f := impl.FrameOf(data)
			if f != frameText(data) {
				t.Fatalf("%d bytes: got %.100q", n, f)
			}
			wantFrames(t, f, []string{data}, n+8)
			wantFrames(t, f+f+f[:n+7], []string{data, data}, 2*n+16)
			wantFrames(t, frameText("a")+f+"a", []string{"a", data}, n+17)
		}
	}
	for _, n := range []int{maxFrameData + 1, maxFrameData + 2, 2 * maxFrameData, 1 << 20} {
		for _, data := range []string{strings.Repeat("\x00", n), randomDigits(r, n)} {
			if f := impl.FrameOf(data); f != "" {
				t.Errorf("%d bytes: got %.100q", n, f)
			}
			wantFrames(t, frameText(data), nil, 0)
			wantFrames(t, frameText("a")+frameText(data)+frameText("b"), []string{"a"}, 9)
		}
	}
}

func TestManyFrames(t *testing.T) {
	r := numbers()
	for range 100 {
		var want []string
		s := ""
		for range r.IntN(30) {
			data := randomDigits(r, r.IntN(20))
			want = append(want, data)
			s += impl.FrameOf(data)
		}
		for _, tail := range []string{"", "x", "\x00", "\x00\x00\x00\x00\x00\x00\x00", "\x00\x00\x00\x00\x00\x00\x00\x01", "\x00\x00\x00\x01\x00\x00\x00\x00"} {
			wantFrames(t, s+tail, want, len(s))
		}
	}
	for n := range 40 {
		wantFrames(t, strings.Repeat("\x00", n), make([]string, n/8), n/8*8)
	}
	wantFrames(t, strings.Repeat("\x00", maxBytes), make([]string, maxBytes/8), maxBytes)
}

// TestTruncatedFrames cuts a sequence of frames off anywhere.
func TestTruncatedFrames(t *testing.T) {
	data := []string{"first", "", "0 n=a 1 5", strings.Repeat("z", 300), "\x00\x00\x00\x00\x00\x00\x00\x00", "last"}
	s := ""
	for _, x := range data {
		s += frameText(x)
	}
	for n := range len(s) + 1 {
		count, end := 0, 0
		for count < len(data) && end+8+len(data[count]) <= n {
			end += 8 + len(data[count])
			count++
		}
		wantFrames(t, s[:n], data[:count], end)
	}
}

// TestChangedFrames changes one byte of the second of three frames.
func TestChangedFrames(t *testing.T) {
	for _, data := range []string{"", "x", "abc", "1 n=b 1 5", strings.Repeat("z", 300)} {
		first, second, third := frameText("first"), frameText(data), frameText("third")
		for i := range second {
			for _, change := range []byte{1, 2, 4, 8, 16, 32, 64, 128, 255} {
				changed := []byte(second)
				changed[i] ^= change
				wantFrames(t, first+string(changed)+third, []string{"first"}, len(first))
				wantFrames(t, string(changed)+third, nil, 0)
				wantFrames(t, string(changed), nil, 0)
			}
		}
		for i := range len(second) - 1 {
			swapped := []byte(second)
			swapped[i], swapped[i+1] = swapped[i+1], swapped[i]
			if string(swapped) != second {
				wantFrames(t, first+string(swapped)+third, []string{"first"}, len(first))
			}
		}
	}
}

// framed returns a frame with another length, and with the checksum of data.
func framed(length uint32, data, behind string) string {
	out := binary.BigEndian.AppendUint32(nil, length)
	out = binary.LittleEndian.AppendUint32(out, crc32.ChecksumIEEE([]byte(data)))
	return string(out) + data + behind
}

func TestLengthsOfFrames(t *testing.T) {
	wantFrames(t, framed(3, "abc", ""), []string{"abc"}, 11)
	for _, length := range []uint32{0, 1, 2, 4, 5, 11, 255, 256, 65536 + 3, 1<<24 + 3, 1<<31 + 3, 1<<31 - 1, 1 << 31, 1<<32 - 1, 1<<32 - 8, maxFrameData, maxFrameData + 1} {
		for _, behind := range []string{"", "d", frameText("abc"), strings.Repeat("\x00", 2*maxFrameData)} {
			wantFrames(t, framed(length, "abc", behind), nil, 0)
			wantFrames(t, frameText("")+framed(length, "abc", behind), []string{""}, 8)
		}
	}
	long := strings.Repeat("y", maxFrameData+1)
	wantFrames(t, framed(maxFrameData, long[1:], ""), []string{long[1:]}, maxFrameData+8)
	wantFrames(t, framed(maxFrameData+1, long, ""), nil, 0)
	wantFrames(t, framed(maxFrameData, long, ""), nil, 0)
	// The bytes of the length are the most significant first, and those of the
	// checksum the least significant first.
	for _, s := range []string{"\x03\x00\x00\x00\xc2\x41\x24\x35abc", "\x00\x00\x00\x03\x35\x24\x41\xc2abc"} {
		wantFrames(t, s, nil, 0)
	}
}

// A logCase is a log and the number of its frames that count.
type logCase struct {
	log   string
	count int
}

// wrongLogs returns logs that are not complete.
func wrongLogs() []logCase {
	a, b, c := "n=a 1 5", "n=b -2 6", "n=c 3 7"
	var out []logCase
	for _, first := range []string{"", "0", "0 ", "1 " + a, "2 " + a, "00 " + a, "000 " + a, "-0 " + a, "+0 " + a, " 0 " + a, "0  " + a, "0\t" + a, "0 " + a + " ", "0 " + a + "\n", a, " " + a, "x " + a, "0" + a, "0 0 " + a, "O " + a, "\x00 " + a, "300 " + a,
		"0 n=a 1", "0 n=a 1 5 6", "0 n=a 01 5", "0 n=a 1 05", "0 n=a 1 0", "0 n=a 1 -5", "0 n=a +1 5", "0 n=a 1000000001 5", "0 n=a 1 1000000000001", "0 n=A 1 5", "0 n= 1 5", "0 n=b,a=b 1 5", "0 b=1,a=1 1 5", "0 x"} {
		out = append(out, logCase{frameText(first), 0}, logCase{frameText(first) + frameText("1 "+b), 0}, logCase{frameText(first) + frameText("0 "+b), 0})
	}
	for _, second := range []string{"0 " + b, "2 " + b, "01 " + b, "001 " + b, "+1 " + b, "1  " + b, "11 " + b, "10 " + b, "1", "1 ", "", "1 " + a, "1 n=a 9 4", "1 n=a 9 1", "1 n=b 1 0", "1 n=b 1000000001 6"} {
		out = append(out, logCase{logOf(a) + frameText(second), 1}, logCase{logOf(a) + frameText(second) + frameText("2 "+c), 1}, logCase{logOf(a) + frameText(second) + frameText("1 "+c), 1})
	}
	full := logOf(a, b, c)
	ends := []int{len(logOf(a)), len(logOf(a, b)), len(full)}
	count := 0
	for i := range full {
		changed := []byte(full)
		changed[i] ^= 64
		out = append(out, logCase{string(changed), count})
		if i+1 == ends[count] {
			count++
		} else {
			out = append(out, logCase{full[:i+1], count})
		}
	}
	for _, noise := range []string{"x", "\x00", "noise and more noise", strings.Repeat("\xff", 8), strings.Repeat("\x00", 8)} {
		out = append(out, logCase{noise + full, 0}, logCase{logOf(a, b) + noise + frameText("2 "+c), 2}, logCase{full + noise, 3}, logCase{full + noise + frameText("3 n=c 1 8"), 3})
	}
	return append(out, logCase{full + full, 3})
}

// longLogs returns logs with so many frames that not all of them may count.
func longLogs() []logCase {
	texts := logTexts(maxFrames + 3)
	ninth := []string{"n=1 1 1", "n=2 1 1", "n=3 1 1", "n=4 1 1", "n=5 1 1", "n=6 1 1", "n=7 1 1", "n=c 1 1", "n=9 1 1", "n=1 1 2"}
	renumbered := logOf(append(slices.Clone(texts[:200]), texts[201:250]...)...)
	return []logCase{
		{logOf(texts[:maxFrames-1]...), maxFrames - 1},
		{logOf(texts[:maxFrames]...), maxFrames},
		{logOf(texts[:maxFrames+1]...), maxFrames},
		{logOf(texts[:maxFrames+3]...), maxFrames},
		{logOf(texts[:maxFrames]...) + "x", maxFrames},
		{logOf(texts[:maxFrames]...) + frameText("x"), maxFrames},
		{logOf(texts[:maxFrames]...) + frameText("300 x"), maxFrames},
		{logOf(texts[:maxFrames]...) + frameText("0 "+texts[0]), maxFrames},
		{renumbered, 249},
		{logOf(texts[:120]...) + frameText("0120 "+texts[120]), 120},
		{logOf(ninth...), 8},
	}
}

func TestLogs(t *testing.T) {
	next := writeAct("n=c 5 9999", true, -1)
	for _, x := range slices.Concat(wrongLogs(), longLogs()) {
		l := logFrom(x.log)
		if l.count != x.count {
			t.Fatalf("%.300q: the model counts %d; want %d", x.log, l.count, x.count)
		}
		d := withLog(x.log)
		wantView(t, d)
		opened := wantActed(t, d, openAct(-1), stOk)
		if opened.live["log"] != x.log[:l.end] || len(opened.live) != 1 || len(opened.ops) > 0 {
			t.Fatalf("%.300q has become %s", x.log, short(opened))
		}
		code := map[bool]int64{true: stTorn, false: stOk}[l.end < len(x.log)]
		if code == stOk && x.count == maxFrames {
			code = stFull
		}
		wantActed(t, d, next, code)
		if x.count < maxFrames {
			wantView(t, wantActed(t, opened, next, stOk))
		} else {
			wantUnmoved(t, opened, next, stFull)
		}
	}
	for _, x := range wrongLogs() {
		wantUnmoved(t, withLog(x.log), next, stTorn)
	}
}

func TestStoreView(t *testing.T) {
	a, b := "n=a 1 5", "n=b 2 6"
	wantView(t, driveOf(nil))
	wantView(t, driveOf(fileSet{"Log": logOf(a), "log.new": logOf(a), "lo": "", "log ": ""}))
	for _, log := range []string{"", logOf(a), logOf(a, b), logOf(b, a), logOf(a)[1:], logOf(a) + "x"} {
		wantView(t, withLog(log))
		wantView(t, driveOf(fileSet{"log": log, "log.new": logOf(b), "a": "x"}))
	}
	// What is seen is not what is synchronized.
	d := withLog(logOf(a)).after(t, appended("log", frameText("1 "+b)))
	wantView(t, d)
	wantView(t, d.after(t, removed("log")))
	wantView(t, d.after(t, renamed("log", "log.old"), appended("log", logOf(b))))
	if got, code := impl.StoreView(d.disk()); code != stOk || len(got.Series) != 2 {
		t.Error(got, code)
	}
}

// wantInvalidStore reports a disk that is not rejected by each function.
func wantInvalidStore(t *testing.T, d impl.Disk) {
	t.Helper()
	if got, code := impl.StoreView(d); code != stDisk || len(got.Series) > 0 {
		t.Fatalf("%s: got %v, %d", short(d), got, code)
	}
	acts := []impl.Act{newAct(-1), newAct(0), writeAct("n=a 1 5", false, -1), writeAct("", false, -1), openAct(-1), crashAct(nil, 0, -1), crashAct([]int64{-1}, -1, -1), {}, {Kind: 9, Power: -1}}
	for _, a := range acts {
		got, code := impl.StoreDo(d, a)
		if code != stDisk {
			t.Fatalf("%s on %s: got %d", short(a), short(d), code)
		}
		wantZeroDisk(t, got)
	}
	for _, list := range [][]impl.Act{nil, acts[:1], acts} {
		got, codes := impl.StorePlay(d, list)
		if len(codes) > 0 {
			t.Fatalf("%s: got %v", short(d), codes)
		}
		wantZeroDisk(t, got)
	}
}

func TestInvalidDisksOfStores(t *testing.T) {
	log := impl.File{Name: "log", Data: logOf("n=a 1 5")}
	for _, l := range invalidFiles() {
		wantInvalidStore(t, impl.Disk{Live: l, Safe: l})
		if i, found := slices.BinarySearchFunc(l, "log", func(f impl.File, s string) int { return strings.Compare(f.Name, s) }); !found {
			l = slices.Insert(slices.Clone(l), i, log)
		}
		wantInvalidStore(t, impl.Disk{Live: l, Safe: l})
	}
	good := []impl.File{log}
	wantInvalidStore(t, impl.Disk{Live: good})
	wantInvalidStore(t, impl.Disk{Safe: good})
	wantInvalidStore(t, impl.Disk{Live: []impl.File{log, log}, Safe: []impl.File{log, log}})
	wantInvalidStore(t, impl.Disk{Live: good, Safe: good, Ops: []impl.DOp{appended("log", "x")}})
	wantInvalidStore(t, impl.Disk{Live: good, Safe: good, Ops: []impl.DOp{{}}})
	var ops []impl.DOp
	for range maxOps + 1 {
		ops = append(ops, appended("log", ""))
	}
	wantInvalidStore(t, impl.Disk{Live: good, Safe: good, Ops: ops})
	wantView(t, drive{live: setOf(good), safe: setOf(good), ops: ops[1:]})
}

func TestKindsOfActions(t *testing.T) {
	for _, d := range []drive{driveOf(nil), withLog(""), withLog("x"), withLog(logOf("n=a 1 5")).after(t, appended("log", "x"))} {
		for _, kind := range []int64{0, 5, 6, 9, -1, -4, maxInt, minInt, 1 << 32, 1<<32 + 1} {
			for _, power := range []int64{-1, 0, 1, 9} {
				wantUnmoved(t, d, impl.Act{Kind: kind, Power: power}, stForm)
				a := writeAct("n=a 1 9", true, power)
				a.Kind = kind
				wantUnmoved(t, d, a, stForm)
			}
		}
	}
	none := driveOf(fileSet{"log.new": "x"})
	wantUnmoved(t, none, writeAct("n=a 1 5", false, -1), stNone)
	wantUnmoved(t, none, writeAct("", false, -1), stNone)
	wantUnmoved(t, none, writeAct("n=a 1 5", false, 0), stNone)
	wantUnmoved(t, none, openAct(-1), stNone)
	wantUnmoved(t, none, openAct(0), stNone)
	wantUnmoved(t, none, crashAct(nil, 0, -1), stNone)
	wantUnmoved(t, none, crashAct(nil, 0, 0), stNone)
	wantActed(t, none, newAct(-1), stOk)
}

func TestNewLogs(t *testing.T) {
	for _, d := range []drive{driveOf(nil), driveOf(fileSet{"a": "1", "log.new": "2"}), driveOf(fileSet{"a": "1"}).after(t, appended("b", "2"), removed("a"))} {
		live := driveOf(d.live).after(t, appended("log", "")).live
		got := wantActed(t, d, newAct(-1), stOk)
		wantDisk(t, got.disk(), driveOf(live))
		wantUnmoved(t, d, newAct(0), stPower)
		wantDisk(t, wantActed(t, d, newAct(1), stPower).disk(), d.after(t, appended("log", "")))
		for _, power := range []int64{2, 3, maxInt, -2, minInt} {
			wantDisk(t, wantActed(t, d, newAct(power), stOk).disk(), driveOf(live))
		}
		wantUnmoved(t, got, newAct(-1), stForm)
		wantUnmoved(t, got, newAct(0), stForm)
	}
	// A log that is not synchronized exists too, and one that is removed does
	// not.
	wantUnmoved(t, driveOf(nil).after(t, appended("log", "x")), newAct(-1), stForm)
	d := wantActed(t, withLog("x").after(t, removed("log")), newAct(-1), stOk)
	wantDisk(t, d.disk(), withLog(""))
}

func TestWrittenFrames(t *testing.T) {
	d := withLog("")
	texts := []string{"n=a 1 5", "n=b -1 5", "n=a 0 6", "a=1,b=2,c=3 -1000000000 1000000000000", "n=b 7 999"}
	for i, text := range texts {
		d = wantActed(t, d, writeAct(text, false, -1), stOk)
		if d.live["log"] != logOf(texts[:i+1]...) || len(d.ops) != i+1 {
			t.Fatal(short(d))
		}
		wantView(t, d)
	}
	synced := wantActed(t, d, writeAct("n=z 1 1", true, -1), stOk)
	wantDisk(t, synced.disk(), withLog(logOf(append(texts, "n=z 1 1")...)))
	one := wantActed(t, d, writeAct("n=z 1 1", false, -1), stOk)
	wantUnmoved(t, d, writeAct("n=z 1 1", true, 0), stPower)
	wantUnmoved(t, d, writeAct("n=z 1 1", false, 0), stPower)
	wantDisk(t, wantActed(t, d, writeAct("n=z 1 1", true, 1), stPower).disk(), one)
	wantDisk(t, wantActed(t, d, writeAct("n=z 1 1", false, 1), stOk).disk(), one)
	for _, power := range []int64{2, 3, maxInt, -2, minInt} {
		wantDisk(t, wantActed(t, d, writeAct("n=z 1 1", true, power), stOk).disk(), synced)
		wantDisk(t, wantActed(t, d, writeAct("n=z 1 1", false, power), stOk).disk(), one)
	}
}

// TestCodesOfWrite has actions to which several codes apply.
func TestCodesOfWrite(t *testing.T) {
	texts := logTexts(maxFrames + 1)
	full, over := withLog(logOf(texts[:maxFrames]...)), withLog(logOf(texts...))
	late, good := "n=a 1 5", texts[maxFrames]
	some := withLog(logOf("n=a 1 5", "n=b 1 5"))
	torn := withLog(logOf("n=a 1 5", "n=b 1 5") + "x")
	for _, x := range []struct {
		d    drive
		text string
		code int64
	}{
		{driveOf(nil), "", stNone},
		{driveOf(nil), good, stNone},
		{some, "", stForm},
		{some, late, stNot},
		{some, "n=a 1 0", stNot},
		{some, "n=c 1 0", stNot},
		{some, "n=a 1 6", stOk},
		{some, good, stOk},
		{torn, "", stForm},
		{torn, late, stTorn},
		{torn, good, stTorn},
		{full, "", stForm},
		{full, late, stNot},
		{full, good, stFull},
		{over, "", stForm},
		{over, late, stTorn},
		{over, good, stTorn},
		{withLog(logOf(texts[:maxFrames-1]...)), texts[maxFrames-1], stOk},
		{withLog(logOf("n=1 1 1", "n=2 1 1", "n=3 1 1", "n=4 1 1", "n=5 1 1", "n=6 1 1", "n=7 1 1", "n=8 1 1")), "n=9 1 1", stNot},
		{withLog(logOf("n=1 1 1", "n=2 1 1", "n=3 1 1", "n=4 1 1", "n=5 1 1", "n=6 1 1", "n=7 1 1")), "n=9 1 1", stOk},
	} {
		for _, sync := range []bool{false, true} {
			if x.code == stOk {
				wantActed(t, x.d, writeAct(x.text, sync, -1), stOk)
				wantUnmoved(t, x.d, writeAct(x.text, sync, 0), stPower)
				continue
			}
			for _, power := range []int64{-1, 0, 1, 2} {
				wantUnmoved(t, x.d, writeAct(x.text, sync, power), x.code)
			}
		}
	}
}

func TestInvalidLinesOfActions(t *testing.T) {
	d := withLog(logOf("n=a 1 5"))
	for _, l := range invalidLabels() {
		wantUnmoved(t, d, impl.Act{Kind: acWrite, Line: impl.Line{L: l, V: 1, T: 9}, Power: -1}, stForm)
	}
	for _, x := range []impl.Line{{}, {V: maxSmall + 1, T: 9}, {V: -maxSmall - 1, T: 9}, {T: -1}, {T: maxTime + 1}, {T: minInt}, {V: maxInt, T: 9}} {
		x.L = labelsFrom("n=a")
		code := int64(stForm)
		if x.T == 0 {
			code = stNot
		}
		wantUnmoved(t, d, impl.Act{Kind: acWrite, Line: x, Power: -1}, code)
	}
}

// TestStepsOfOpen has the disk after each step.
func TestStepsOfOpen(t *testing.T) {
	good := logOf("n=a 1 5", "n=b 1 5")
	bad := good + "torn"
	base := drive{live: fileSet{"log": bad}, safe: fileSet{"a": "x"}, ops: []impl.DOp{renamed("a", "log"), removed("log"), appended("log", bad)}}
	left := base.after(t, appended("log.new", "left"))
	copied := driveOf(fileSet{"log": bad, "log.new": good})
	for _, x := range []struct {
		d     drive
		after []drive
	}{
		{base, []drive{base, base.after(t, appended("log.new", good)), copied, copied.after(t, renamed("log.new", "log")), withLog(good)}},
		{left, []drive{left, left.after(t, removed("log.new")), left.after(t, removed("log.new"), appended("log.new", good)), copied, copied.after(t, renamed("log.new", "log")), withLog(good)}},
	} {
		last := len(x.after) - 1
		for i, after := range x.after[:last] {
			wantDisk(t, wantActed(t, x.d, openAct(int64(i)), stPower).disk(), after)
		}
		for _, power := range []int64{int64(last), int64(last) + 1, maxInt, -1, -2, minInt} {
			wantDisk(t, wantActed(t, x.d, openAct(power), stOk).disk(), x.after[last])
		}
	}
	for _, log := range []string{"", good} {
		for _, d := range []drive{withLog(log), driveOf(nil).after(t, appended("log", log)), driveOf(fileSet{"log": log, "log.new": "left"})} {
			for _, power := range []int64{-1, 0, 1, 9} {
				wantUnmoved(t, d, openAct(power), stOk)
			}
		}
	}
	// No frame counts.
	wantDisk(t, wantActed(t, withLog("torn"), openAct(-1), stOk).disk(), withLog(""))
	wantDisk(t, wantActed(t, withLog("torn"), openAct(2), stPower).disk(), driveOf(fileSet{"log": "torn", "log.new": ""}))
}

// TestActionsOnFullDisks has steps that the disk rejects, after which it must
// become again what it was.
func TestActionsOnFullDisks(t *testing.T) {
	good := logOf("n=a 1 5")
	next := frameText("1 n=a 2 6")
	many := func(n int, log string) drive {
		s := setOf(named(n-1, ""))
		s["log"] = log
		return driveOf(s)
	}
	filled := func(log string, room int) drive {
		return driveOf(fileSet{"log": log, "z": strings.Repeat("z", maxBytes-len(log)-room)})
	}
	with := func(d drive, name, data string) drive {
		return driveOf(driveOf(d.live).after(t, appended(name, data)).live)
	}
	busy := func(d drive, n int) drive {
		for range n {
			d.ops = append(slices.Clip(d.ops), appended("log", ""))
		}
		return d
	}
	for _, x := range []struct {
		d    drive
		a    impl.Act
		at   int64 // the step that is rejected, or -1
		many int64
	}{
		{driveOf(setOf(named(maxFiles, ""))), newAct(0), 0, 2},
		{driveOf(setOf(named(maxFiles-1, ""))), newAct(0), -1, 2},
		{drive{live: fileSet{"a": "d"}, safe: fileSet{"a": "d"}, ops: opsOf(maxOps)}, newAct(0), 0, 2},
		{drive{live: fileSet{"a": "d"}, safe: fileSet{"a": "d"}, ops: opsOf(maxOps - 1)}, newAct(0), -1, 2},
		{driveOf(fileSet{"z": strings.Repeat("z", maxBytes)}), newAct(0), -1, 2},
		{many(maxFiles, good), writeAct("n=a 2 6", true, 0), -1, 2},
		{filled(good, len(next)), writeAct("n=a 2 6", true, 0), -1, 2},
		{filled(good, len(next)-1), writeAct("n=a 2 6", true, 0), 0, 2},
		{filled(good, len(next)-1), writeAct("n=a 2 6", false, 0), 0, 1},
		{filled(good, 0), writeAct("n=a 2 6", true, 0), 0, 2},
		{busy(withLog(good), maxOps-1), writeAct("n=a 2 6", true, 0), -1, 2},
		{busy(withLog(good), maxOps), writeAct("n=a 2 6", true, 0), 0, 2},
		{busy(withLog(good), maxOps), writeAct("n=a 2 6", false, 0), 0, 1},
		{many(maxFiles, good+"x"), openAct(0), 0, 4},
		{many(maxFiles-1, good+"x"), openAct(0), -1, 4},
		{with(many(maxFiles-1, good+"x"), "log.new", "left"), openAct(0), -1, 5},
		{filled(good+"x", len(good)), openAct(0), -1, 4},
		{filled(good+"x", len(good)-1), openAct(0), 0, 4},
		{with(filled(good+"x", len(good)), "log.new", good), openAct(0), -1, 5},
		{with(filled(good+"x", len(good)-1), "log.new", good[1:]), openAct(0), 1, 5},
		{with(filled(good+"x", len(good)-1), "log.new", ""), openAct(0), 1, 5},
		{busy(withLog(good+"x"), maxOps-1), openAct(0), -1, 4},
		{busy(withLog(good+"x"), maxOps), openAct(0), 0, 4},
		{busy(with(withLog(good+"x"), "log.new", "left"), maxOps-2), openAct(0), -1, 5},
		{busy(with(withLog(good+"x"), "log.new", "left"), maxOps-1), openAct(0), 1, 5},
		{busy(with(withLog(good+"x"), "log.new", "left"), maxOps), openAct(0), 0, 5},
		{busy(withLog(good), maxOps), openAct(0), -1, 0},
	} {
		for _, x.a.Power = range []int64{-1, 0, 1, 2, 3, 4, 5, 6} {
			power := x.a.Power
			switch {
			case power >= 0 && power < x.many && (x.at < 0 || power <= x.at):
				wantActed(t, x.d, x.a, stPower)
			case x.at >= 0:
				wantUnmoved(t, x.d, x.a, stFull)
			default:
				wantActed(t, x.d, x.a, stOk)
			}
		}
	}
}

// TestFullDisksAfterALossOfPower has steps that the disk after the loss of
// power rejects, so that it is what remains.
func TestFullDisksAfterALossOfPower(t *testing.T) {
	good := logOf("n=a 1 5")
	files := setOf(named(maxFiles-1, ""))
	files["log"] = good + "x"
	d := driveOf(files)
	for _, power := range []int64{-1, 1, 4} {
		wantUnmoved(t, d, crashAct(nil, 0, power), stFull)
	}
	wantUnmoved(t, d, crashAct(nil, 0, 0), stPower)
	d = d.after(t, removed("f00"), appended("f01", "kept"))
	wantActed(t, d, crashAct([]int64{0, 1}, 9, -1), stOk)
	got := wantActed(t, d, crashAct([]int64{1}, 9, -1), stFull)
	files["f01"] = "kept"
	wantDisk(t, got.disk(), driveOf(files))
}

func TestCodesOfCrash(t *testing.T) {
	d := withLog(logOf("n=a 1 5")).after(t, appended("log", frameText("1 n=b 1 5")), removed("log"), appended("log", "x"))
	for _, power := range []int64{-1, 0, 1, 9} {
		for _, keep := range [][]int64{{-1}, {3}, {0, 0}, {1, 0}, {0, 1, 2, 3}} {
			wantUnmoved(t, d, crashAct(keep, 99, power), stForm)
		}
		wantUnmoved(t, d, crashAct(nil, -1, power), stForm)
		wantUnmoved(t, d, crashAct([]int64{0}, minInt, power), stForm)
		// The log is not there after the loss of power.
		for _, keep := range [][]int64{{1}, {0, 1}} {
			wantDisk(t, wantActed(t, d, crashAct(keep, 99, power), stNone).disk(), driveOf(nil))
		}
		wantDisk(t, wantActed(t, d, crashAct(nil, 0, power), stOk).disk(), withLog(logOf("n=a 1 5")))
		wantDisk(t, wantActed(t, d, crashAct([]int64{0}, 99, power), stOk).disk(), withLog(logOf("n=a 1 5", "n=b 1 5")))
		wantDisk(t, wantActed(t, d, crashAct([]int64{1, 2}, 0, power), stOk).disk(), withLog(""))
	}
	wantDisk(t, wantActed(t, d, crashAct([]int64{1, 2}, 1, -1), stOk).disk(), withLog(""))
	wantUnmoved(t, driveOf(nil), crashAct(nil, 0, -1), stNone)
	wantUnmoved(t, driveOf(nil), crashAct([]int64{0}, 0, -1), stForm)
	// It is there only before it.
	wantDisk(t, wantActed(t, driveOf(nil).after(t, appended("log", "")), crashAct(nil, 0, -1), stNone).disk(), driveOf(nil))
	// It is there only after it.
	wantActed(t, withLog("").after(t, removed("log")), crashAct(nil, 0, -1), stOk)
	full := driveOf(setOf(named(maxFiles, ""))).after(t, removed("f00"), appended("log", ""))
	wantUnmoved(t, full, crashAct([]int64{1}, 0, -1), stForm)
}

func TestStoreExamples(t *testing.T) {
	d, codes := impl.StorePlay(impl.Disk{}, []impl.Act{newAct(-1), writeAct("n=a 1 5", false, -1), writeAct("n=b 1 5", false, -1), writeAct("n=c 1 5", false, -1)})
	if !slices.Equal(codes, []int64{stOk, stOk, stOk, stOk}) {
		t.Fatal(codes)
	}
	for _, x := range []struct {
		keep []int64
		torn int64
		want int
	}{{[]int64{0, 1}, 99, 2}, {[]int64{1}, 99, 0}, {[]int64{0, 1, 2}, 9, 2}, {[]int64{0, 1, 2}, 99, 3}, {nil, 0, 0}} {
		e, code := impl.StoreDo(d, crashAct(x.keep, x.torn, -1))
		if v, c := impl.StoreView(e); code != stOk || c != stOk || len(v.Series) != x.want {
			t.Error(x, code, c, v)
		}
	}
	if e, code := impl.StoreDo(d, newAct(-1)); code != stForm || !sameDisk(d, e) {
		t.Error(code, short(e))
	}
	if e, code := impl.StoreDo(impl.Disk{}, openAct(-1)); code != stNone || !sameDisk(impl.Disk{}, e) {
		t.Error(code, short(e))
	}
	e, codes := impl.StorePlay(d, []impl.Act{openAct(-1), {Kind: 9}})
	if !slices.Equal(codes, []int64{stOk, stForm}) || !sameDisk(d, e) {
		t.Error(codes, short(e))
	}
}

// A journal is what promise 15 knows of a log: the texts of all its lines, and
// how many of them were there at the last synchronization.
type journal struct {
	texts  []string
	synced int
}

// prefixes returns the databases of each prefix of the lines that the log may
// contain after a loss of power.
func (j journal) prefixes() []impl.Db {
	var out []impl.Db
	s := store{}
	for i := range len(j.texts) + 1 {
		if i > 0 {
			x, _ := lineFrom(j.texts[i-1])
			s, _ = s.written(x)
		}
		if i >= j.synced {
			out = append(out, s.db())
		}
	}
	return out
}

// wantPrefix reports a disk whose log does not contain one of these databases,
// the first of which is that of the first n lines, and returns the number of
// lines that it contains.
func wantPrefix(t *testing.T, d impl.Disk, prefixes []impl.Db, n int) int {
	t.Helper()
	got, code := impl.StoreView(d)
	i := slices.IndexFunc(prefixes, func(x impl.Db) bool { return sameDb(x, got) })
	if code != stOk || i < 0 {
		t.Fatalf("%s: got %v, %d", short(d), got, code)
	}
	return n + i
}

// act performs an action on a disk and on its journal.
func (j *journal) act(t *testing.T, d impl.Disk, a impl.Act) impl.Disk {
	t.Helper()
	out, code := impl.StoreDo(d, a)
	switch {
	case a.Kind == acCrash:
		n := wantPrefix(t, out, j.prefixes(), j.synced)
		*j = journal{texts: slices.Clone(j.texts[:n]), synced: n}
	case a.Kind == acWrite && (code == stOk || code == stPower && a.Power == 1):
		j.texts = append(j.texts, lineText(a.Line))
		if a.Sync && code == stOk {
			j.synced = len(j.texts)
		}
	case code != stOk && code != stPower && code != stTorn && code != stFull:
		t.Fatal(a, code)
	}
	return out
}

// randomKeep returns a strictly increasing list of indexes less than n.
func randomKeep(r *rand.Rand, n int) []int64 {
	var out []int64
	for i := range n {
		if r.IntN(3) > 0 {
			out = append(out, int64(i))
		}
	}
	return out
}

// TestRandomLossesOfPower writes lines between losses of power, in which
// opening the log may be interrupted by the next one.
func TestRandomLossesOfPower(t *testing.T) {
	r := numbers()
	losses, longest := 0, 0
	for range 150 {
		d, code := impl.StoreDo(impl.Disk{}, newAct(-1))
		if code != stOk {
			t.Fatal(code)
		}
		j := journal{}
		for at := range int64(40) {
			a := writeAct("n="+string(rune('a'+r.IntN(3)))+" "+strconv.Itoa(int(at))+" "+strconv.Itoa(int(3*at+1)), r.IntN(6) == 0, r.Int64N(6)-1)
			switch r.IntN(8) {
			case 0:
				a = crashAct(randomKeep(r, len(d.Ops)), r.Int64N(25), r.Int64N(7)-1)
				losses++
			case 1:
				a = openAct(r.Int64N(7) - 1)
			}
			d = j.act(t, d, a)
			if n := wantPrefix(t, d, j.prefixes(), j.synced); n != len(j.texts) {
				t.Fatal(n, j)
			}
		}
		longest = max(longest, len(j.texts))
	}
	if losses < 500 || longest < 15 {
		t.Error("few losses of power, or few lines:", losses, longest)
	}
}

// TestEachLossOfPowerAtEachStep loses the power once with each part of the
// unsynchronized data, opens the log as far as the power lasts, and loses it
// again, also with each part.
func TestEachLossOfPowerAtEachStep(t *testing.T) {
	texts := []string{"n=a 1 5", "n=b 2 5", "n=a 3 6", "n=c 4 7", "n=b 5 8"}
	longest := int64(len(frameText("0 " + texts[0])))
	second := 0
	for synced := range 4 {
		d, _ := impl.StoreDo(impl.Disk{}, newAct(-1))
		j := journal{}
		for i, text := range texts[:synced+2] {
			d = j.act(t, d, writeAct(text, i+1 == synced, -1))
		}
		if synced == 3 {
			d, _ = impl.Do(d, appended("log.new", "left"))
		}
		all := j.prefixes()
		for _, keep := range subsets(len(d.Ops)) {
			for torn := range longest + 2 {
				for power := range int64(6) {
					opened, code := impl.StoreDo(d, crashAct(keep, torn, power))
					n := wantPrefix(t, opened, all, synced)
					if code == stOk && len(opened.Ops) > 0 || code != stOk && code != stPower {
						t.Fatal(code, short(opened))
					}
					for _, again := range subsets(len(opened.Ops)) {
						for _, torn := range []int64{0, 1, 20, 99} {
							last, code := impl.StoreDo(opened, crashAct(again, torn, -1))
							if code != stOk || wantPrefix(t, last, all[n-synced:n-synced+1], n) != n {
								t.Fatal(code, short(last))
							}
							second++
						}
					}
				}
			}
		}
	}
	if second < 10000 {
		t.Error("few losses of power:", second)
	}
}

// TestLossesOfPowerInEachAction loses the power before each step of each action.
func TestLossesOfPowerInEachAction(t *testing.T) {
	texts := []string{"n=a 1 5", "n=b 2 5", "n=a 3 6"}
	base := withLog(logOf(texts[:1]...)).after(t, appended("log", frameText("1 "+texts[1])))
	torn := base.after(t, appended("log", "torn"))
	left := torn.after(t, appended("log.new", logOf("n=z 9 9")))
	for _, x := range []struct {
		d    drive
		a    impl.Act
		more int
	}{
		{base, writeAct(texts[2], false, 0), 1},
		{base, writeAct(texts[2], true, 0), 1},
		{base, openAct(0), 0},
		{torn, openAct(0), 0},
		{left, openAct(0), 0},
	} {
		for _, x.a.Power = range []int64{-1, 0, 1, 2, 3, 4, 5} {
			after, _ := wantSame(t, x.d, x.a)
			j := journal{texts: texts[:2+x.more], synced: 1}
			if len(after.ops) == 0 {
				j.synced = 2
			}
			if len(after.ops) == 0 && x.a.Sync {
				j.synced = 3
			}
			for _, keep := range subsets(len(after.ops)) {
				for cut := range int64(30) {
					last, code := wantSame(t, after, crashAct(keep, cut, -1))
					if code != stOk {
						t.Fatal(code)
					}
					wantPrefix(t, last.disk(), j.prefixes(), j.synced)
				}
			}
		}
	}
	for power := range int64(3) {
		after, _ := wantSame(t, driveOf(nil), newAct(power))
		for _, keep := range subsets(len(after.ops)) {
			last, code := wantSame(t, after, crashAct(keep, 0, -1))
			if want := map[bool]int64{true: stOk, false: stNone}[power == 2 || len(keep) > 0]; code != want {
				t.Fatal(power, keep, code, last)
			}
		}
	}
}

// randomAct returns an action, which may be one that is rejected.
func randomAct(r *rand.Rand, d drive, at int64) impl.Act {
	power := int64(-1)
	if r.IntN(3) == 0 {
		power = r.Int64N(6)
	}
	text := "n=" + string(rune('a'+r.IntN(5))) + " 7 " + strconv.Itoa(int(at-r.Int64N(4)))
	switch r.IntN(24) {
	case 0, 1:
		return newAct(power)
	case 2, 3, 4:
		return openAct(power)
	case 5, 6, 7:
		return crashAct(randomKeep(r, len(d.ops)), r.Int64N(30), power)
	case 8:
		return crashAct([]int64{r.Int64N(5), r.Int64N(5)}, r.Int64N(30), power)
	case 9:
		return impl.Act{Kind: r.Int64N(20) - 5, Power: power}
	case 10:
		text = ""
	}
	return writeAct(text, r.IntN(4) == 0, power)
}

// noise is what is done on a disk beside the actions.
func noise(r *rand.Rand, d drive) drive {
	ops := []impl.DOp{appended("log", "noise"), appended("log.new", "noise"), removed("log"), removed("log.new"), renamed("log", "log.new"), appended("a", "x"), appended("log", frameText("9 n=a 1 5")), appended("log", strings.Repeat("\x00", 8))}
	d, _ = d.done(ops[r.IntN(len(ops))])
	return d
}

func TestRandomActions(t *testing.T) {
	r := numbers()
	seen := map[int64]int{}
	for range 150 {
		d := driveOf(nil)
		if r.IntN(2) == 0 {
			d = withLog(logOf(logTexts(r.IntN(20))...))
		}
		for at := range int64(60) {
			next, code := wantSame(t, d, randomAct(r, d, 2*at+1))
			wantView(t, next)
			seen[code]++
			d = next
			if r.IntN(12) == 0 {
				d = noise(r, d)
			}
		}
	}
	for _, code := range []int64{stOk, stNone, stForm, stPower, stTorn, stNot} {
		if seen[code] < 100 {
			t.Error("few cases of one code:", seen)
		}
	}
}

func TestStorePlay(t *testing.T) {
	r := numbers()
	for n := range 60 {
		first := driveOf(nil)
		if n%2 == 0 {
			first = withLog(logOf(logTexts(n)...)).after(t, appended("a", "x"))
		}
		d := first
		var list []impl.Act
		var want []int64
		for at := range n {
			a := randomAct(r, d, int64(2*at+1))
			next, code := d.acted(a)
			list, want, d = append(list, a), append(want, code), next
		}
		got, codes := impl.StorePlay(first.disk(), list)
		if !slices.Equal(codes, want) {
			t.Fatal(codes, want)
		}
		wantDisk(t, got, d)
	}
	for _, list := range [][]impl.Act{nil, {}} {
		got, codes := impl.StorePlay(impl.Disk{}, list)
		wantZeroDisk(t, got)
		if len(codes) > 0 {
			t.Error(codes)
		}
		d := withLog("x").after(t, appended("log", "y"))
		got, codes = impl.StorePlay(d.disk(), list)
		wantDisk(t, got, d)
		if len(codes) > 0 {
			t.Error(codes)
		}
	}
}

// TestMoreLinesThanTheLogHas writes lines until no more frames count.
func TestMoreLinesThanTheLogHas(t *testing.T) {
	list := []impl.Act{newAct(-1)}
	want := []int64{stOk}
	for i, x := range lines(maxFrames + 2) {
		list = append(list, impl.Act{Kind: acWrite, Line: x, Sync: i%100 == 99, Power: -1})
		want = append(want, map[bool]int64{true: stOk, false: stFull}[i < maxFrames])
	}
	got, codes := impl.StorePlay(impl.Disk{}, list)
	if !slices.Equal(codes, want) {
		t.Error(codes)
	}
	wantDisk(t, got, withLog(logOf(logTexts(maxFrames)...)))
	// Without Sync, there are first too many operations.
	for i := range list {
		list[i].Sync = false
	}
	got, codes = impl.StorePlay(impl.Disk{}, list)
	for i := range want {
		want[i] = map[bool]int64{true: stOk, false: stFull}[i <= maxOps]
	}
	if !slices.Equal(codes, want) || len(got.Ops) != maxOps {
		t.Error(codes, len(got.Ops))
	}
}

// spaciousAct returns an action like a of which each list has spare elements.
func spaciousAct(a impl.Act) impl.Act {
	a.Line = spaciousLine(a.Line)
	a.Keep, _ = withSpare(a.Keep, 0, 1, 2)
	return a
}

func TestStoresAreNotModified(t *testing.T) {
	r := numbers()
	good := logOf("n=a 1 5", "n=b 1 5")
	all := []impl.Disk{
		{},
		withLog(good).disk(),
		withLog(good+"x").after(t, appended("log.new", "left"), appended("a", "")).disk(),
		withLog("").after(t, appended("log", good), appended("log", "x")).disk(),
		driveOf(nil).after(t, appended("log", good)).disk(),
		{Live: filesWith("a", "log"), Safe: filesWith("log", "a")},
		withLog(logOf(logTexts(maxFrames)...) + "x").disk(),
	}
	for _, d := range slices.Concat(all, someDisks(t)[:20]) {
		d = spaciousDisk(d)
		unchanged := wantUnchanged(t, d)
		one, _ := impl.StoreView(d)
		two, _ := impl.StoreView(d)
		wantOwnMemory(t, one, d, two)
		if !sameDb(one, two) {
			t.Error("other results for equal arguments")
		}
		var list []impl.Act
		for range 20 {
			a := spaciousAct(randomAct(r, drive{ops: d.Ops}, 50))
			unchangedAct := wantUnchanged(t, a)
			one, code := impl.StoreDo(d, a)
			two, again := impl.StoreDo(d, a)
			wantOwnMemory(t, one, d, a, two)
			if code != again || !sameDisk(one, two) {
				t.Error("other results for equal arguments", a, code, again)
			}
			unchangedAct()
			list = append(list, a)
		}
		for _, n := range []int{0, 1, 20} {
			list := append(slices.Clone(list[:n]), list...)[:n]
			unchangedList := wantUnchanged(t, list)
			one, codes := impl.StorePlay(d, list)
			two, again := impl.StorePlay(d, list)
			wantOwnMemory(t, one, d, list, two)
			wantOwnMemory(t, codes, d, list, again)
			if !slices.Equal(codes, again) || !sameDisk(one, two) {
				t.Error("other results for equal arguments", codes, again)
			}
			unchangedList()
		}
		unchanged()
	}
}

func TestFramesShareNoMemory(t *testing.T) {
	for _, data := range []string{"", "a", "abc", strings.Repeat("x", maxFrameData)} {
		data = strings.Clone(data)
		f := impl.FrameOf(data)
		wantOwnMemory(t, f, data, impl.FrameOf(data))
		one, _ := impl.TakeFrames(f + f)
		two, _ := impl.TakeFrames(f)
		wantOwnMemory(t, one, f, two)
		s := f + f
		one, _ = impl.TakeFrames(s)
		wantOwnMemory(t, one, s)
	}
}
