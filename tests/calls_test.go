package tests

import (
	"slices"
	"strings"
	"testing"

	"loop.example/g00617/impl"
)

// allCalls returns calls of every exported function, some of which it rejects.
func allCalls(t *testing.T) callList {
	var l callList
	l.addBits()
	l.addVarints()
	l.addTimes()
	l.addValues()
	l.addBlocks()
	l.addNames()
	l.addRolls()
	l.addCascades()
	l.addQueries()
	l.addIndexes()
	l.addLines()
	l.addDbs()
	l.addAlerts()
	l.addDisks(t)
	l.addStores()
	l.addHists()
	l.addChunks()
	l.addScripts()
	return l
}

// few returns n elements of a longer list: the first one, the last one, and some
// between them.
func few[T any](l []T, n int) []T {
	if len(l) <= n {
		return l
	}
	var out []T
	for i := range n {
		out = append(out, l[i*(len(l)-1)/(n-1)])
	}
	return out
}

func (l *callList) addBits() {
	all := invalidBits()[:4]
	for _, n := range []int{0, 3, 64, 300} {
		all = append(all, bitsOf(randomDigits(numbers(), n)))
	}
	all = append(all, bitsOf(strings.Repeat("1", maxBits)))
	for _, b := range all {
		l.add(impl.BitsOk, b)
		for _, v := range []int64{-1, 0, 5, 200} {
			for _, n := range []int64{-1, 0, 3, 8, 64, 65} {
				l.add(impl.PutBits, b, v, n)
				l.add(impl.GetBits, b, v, n)
				l.add(impl.Part, b, v, n)
			}
		}
		for _, other := range all {
			l.add(impl.Joined, b, other)
		}
	}
}

func (l *callList) addVarints() {
	for _, n := range few(edgeNumbers(), 40) {
		l.add(impl.Zig, n)
		l.add(impl.Zag, n)
		l.add(impl.VarOf, n)
		l.add(impl.ReadVar, varText(n))
		l.add(impl.ReadVar, varText(n)+"more")
	}
	for _, s := range []string{"", "\x80", "\x80\x00", "\x03\x00\x01\x80\x01", "\x03\x00\x01\x80", "\x02\x01\x03", "\x01\x05", "\x00"} {
		l.add(impl.ReadVar, s)
		l.add(impl.ReadVars, s)
	}
	for _, n := range []int{0, 1, 3, 200, 201} {
		l.add(impl.VarsOf, idsInSteps(n, -50, 7))
	}
}

func (l *callList) addTimes() {
	for _, d := range append(few(steps(), 60), 0, 1, 64, 65, 2049, maxTime+1) {
		l.add(impl.CodeOf, d)
		b := bitsOf("101" + codeDigits(d) + "01")
		l.add(impl.ReadCode, b, 3)
		l.add(impl.ReadCode, b, 0)
	}
	l.add(impl.ReadCode, invalidBits()[0], 0)
	l.add(impl.ReadCode, bitsOf("0"), 1)
	for _, times := range slices.Concat(few(validTimes(), 20), invalidTimes()) {
		l.add(impl.TimesOk, times)
		l.add(impl.TimesBits, times)
		b := bitsOf("11" + timesDigits(times) + "0110")
		for _, n := range []int{-1, 0, len(times) / 2, len(times), len(times) + 9, maxPoints + 1} {
			l.add(impl.ReadTimes, b, 2, n)
		}
	}
}

func (l *callList) addValues() {
	for _, n := range few(edgeNumbers(), 40) {
		l.add(impl.Lead, n)
		l.add(impl.Trail, n)
	}
	for _, values := range append(few(valueLists(), 25), idsInSteps(maxPoints+1, 0, 1)) {
		l.add(impl.ValuesBits, values)
		b := bitsOf("1" + valuesDigits(values) + "11")
		for _, n := range []int{-1, 0, len(values) / 2, len(values), len(values) + 9, maxPoints + 1} {
			l.add(impl.ReadValues, b, 1, n)
		}
	}
}

func (l *callList) addBlocks() {
	for _, points := range slices.Concat(few(pointLists(), 25), few(invalidPoints(), 12), [][]impl.Point{nil}) {
		l.add(impl.PointsOk, points)
		l.add(impl.BlockOf, points)
		b := blockOf(points)
		text := blockText(b)
		for _, x := range []impl.Block{b, {N: b.N + 1, Data: b.Data}, {N: b.N, Data: b.Data + "\x00"}} {
			l.add(impl.PointsOf, x)
			l.add(impl.BlockText, x)
			l.add(impl.ReadBlock, blockText(x))
		}
		l.add(impl.SumOf, text)
		l.add(impl.ReadBlock, text+"x")
	}
	l.add(impl.SumOf, strings.Repeat("x", 10000))
	l.add(impl.SumOf, strings.Repeat("x", 10001))
}

func (l *callList) addNames() {
	r := numbers()
	for _, labels := range slices.Concat(few(validLabels(), 25), few(invalidLabels(), 40)) {
		l.add(impl.LabelsOk, labels)
		l.add(impl.LabelsText, labels)
		l.add(impl.ReadLabels, labelsText(labels))
		l.add(impl.Hash, labels)
		l.add(impl.Matches, labels, nil)
		for range 4 {
			if len(labels) > 0 {
				l.add(impl.Matches, labels, randomMatches(r, labels))
			}
		}
	}
}

func (l *callList) addRolls() {
	r := numbers()
	for _, points := range append(few(smallPointLists(), 15), few(invalidPoints(), 4)...) {
		for _, width := range []int64{0, 1, 10, 60, maxWidth} {
			l.add(impl.RollsOf, points, width)
			rolls := rollsOf(points, max(width, 1))
			l.add(impl.RollsOk, rolls, width)
			l.add(impl.RollsOk, rolls, 2*width)
			for _, to := range []int64{0, width, 2 * width, 2*width + 1, 60} {
				l.add(impl.Coarser, rolls, width, to)
			}
		}
		for _, from := range []int64{-1, 0, 100, 500} {
			l.add(impl.Between, points, from, 2000)
			l.add(impl.Between, points, from, from)
		}
		for _, other := range [][]impl.Point{nil, points, smallPoints(r, 20), {{T: 7, V: 1}, {T: 7}}, farPoints(maxPoints)} {
			l.add(impl.Merged, points, other)
			l.add(impl.Merged, other, points)
		}
	}
}

// someCascades returns cascades that are valid and others.
func someCascades() []impl.Cascade {
	out := few(invalidCascades(), 6)
	for _, h := range append(few(fullHistories(), 24), histories()...) {
		out = append(out, h.cascade())
	}
	return out
}

func (l *callList) addCascades() {
	for _, keep := range []int64{0, 15, 30, 31} {
		l.add(impl.CascadeNew, keep, []int64{10, 20}, []int64{30, 60})
		l.add(impl.CascadeNew, keep, []int64{10, 25}, []int64{30, 60})
		l.add(impl.CascadeNew, keep, []int64{10}, []int64{30, 60})
		l.add(impl.CascadeNew, keep, nil, nil)
	}
	for _, c := range someCascades() {
		l.add(impl.CascadeOk, c)
		for _, step := range []int64{-1, 0, 1, 7, 100} {
			l.add(impl.Tick, c, c.Now+step)
			l.add(impl.Ingest, c, impl.Point{T: c.Now + step, V: 3 - step})
		}
		l.add(impl.Ingest, c, impl.Point{T: c.Now + 1, V: maxSmall + 1})
		points := []impl.Point{{T: c.Now + 1, V: 5}, {T: c.Now + 2, V: -5}, {T: c.Now + 40, V: 1}, {T: c.Now + 40, V: 2}, {T: c.Now + 90}}
		l.add(impl.IngestAll, c, points)
		l.add(impl.IngestAll, c, points[:2])
		l.add(impl.IngestAll, c, nil)
	}
}

func (l *callList) addQueries() {
	for _, c := range someCascades() {
		for _, back := range []int64{-1, 5, 100, 5000} {
			from := max(c.Now-back, 0)
			l.add(impl.Pick, c, from)
			for how := range int64(agMean + 2) {
				l.add(impl.Query, c, from, min(c.Now+1, maxTime), how)
			}
			l.add(impl.Query, c, from, -1, agSum)
		}
		l.add(impl.Pick, c, -1)
	}
	for _, points := range slices.Concat(few(smallPointLists(), 15), few(pointLists(), 8), few(invalidPoints(), 4)) {
		l.add(impl.Increase, points)
		for _, n := range []int64{-1, 0, 1, 5, maxPoints} {
			l.add(impl.Ranked, points, n)
		}
	}
}

func (l *callList) addIndexes() {
	lists := append(idLists()[:16], invalidIdLists()[:9]...)
	for _, a := range lists {
		for _, b := range lists {
			l.add(impl.And, a, b)
			l.add(impl.Or, a, b)
			l.add(impl.Less, a, b)
		}
	}
	matches := few(oneMatches(), 12)
	for _, series := range append(few(seriesLists(), 16), few(invalidSeries(), 5)...) {
		l.add(impl.IndexOf, series)
		index := indexOf(series)
		l.add(impl.Lookup, series, nil, nil)
		l.add(impl.Lookup, series, index, nil)
		for i, m := range matches {
			l.add(impl.Lookup, series, index, []impl.Match{m})
			l.add(impl.Lookup, series, index, []impl.Match{m, matches[(i+3)%len(matches)]})
		}
	}
}

func (l *callList) addLines() {
	for _, labels := range append(few(validLabels(), 10), few(invalidLabels(), 10)...) {
		for _, x := range []impl.Line{{L: labels}, {L: labels, V: -5, T: 12}, {L: labels, V: maxSmall, T: maxTime}, {L: labels, V: maxSmall + 1}, {L: labels, T: -1}} {
			l.add(impl.LineOk, x)
			l.add(impl.LineText, x)
			l.add(impl.ReadLine, lineText(x))
		}
	}
	for _, s := range []string{"", "a=b 1", "a=b  1 2", "a=b 01 2", "a=b -0 2"} {
		l.add(impl.ReadLine, s)
	}
}

func (l *callList) addDbs() {
	r := numbers()
	written := randomLines(r, 60)
	var lists [][]impl.Match
	for _, words := range []string{"", "host!", "host=a", "host!a name=x", "name=", "n=1", "n!1 host=", "zone=", "zone!", "host=a host=b"} {
		m, _ := matchesFrom(words)
		lists = append(lists, m)
	}
	for _, d := range dbs() {
		l.add(impl.DbOk, d)
		for _, x := range append(few(written, 12), impl.Line{L: labelsFrom("n=1"), T: 9000}, impl.Line{L: labelsFrom("host=a"), T: 90000}) {
			l.add(impl.Write, d, x)
		}
		for _, m := range lists {
			l.add(impl.Select, d, m)
			l.add(impl.Forget, d, m)
			for _, from := range []int64{0, 100, 900} {
				for _, how := range []int64{0, agSum, agMean} {
					l.add(impl.Ask, d, m, from, maxTime, how)
				}
			}
		}
	}
	for _, n := range []int{0, 1, 5, 60} {
		l.add(impl.WriteAll, written[:n])
		l.add(impl.WriteAll, lines(n))
	}
	l.add(impl.WriteAll, lines(maxLines+1))
}

func (l *callList) addAlerts() {
	for _, points := range append(few(alertLists(), 25), few(invalidPoints(), 4)...) {
		for _, limit := range []int64{-1, 0, 2, 4} {
			for _, long := range []int64{-1, 0, 3, 20} {
				l.add(impl.Above, points, limit, long)
				for _, now := range []int64{0, 500, 20000, maxTime} {
					l.add(impl.Firing, points, limit, long, now)
				}
			}
		}
	}
}

// smallDisks returns disks with few bytes that are valid, and others.
func smallDisks() []impl.Disk {
	out := []impl.Disk{{}, {Live: filesWith("b", "a"), Safe: filesWith("b", "a")}, {Live: filesWith("a", "b"), Safe: filesWith("a")}}
	for _, d := range randomDrives(numbers(), 20, 8) {
		out = append(out, d.disk())
	}
	return append(out, driveOf(setOf(named(maxFiles, "x"))).disk())
}

func (l *callList) addDisks(t *testing.T) {
	r := numbers()
	for _, d := range smallDisks() {
		l.add(impl.DiskOk, d)
		l.add(impl.Sync, d)
		for range 12 {
			l.add(impl.Do, d, randomOp(r))
		}
		for _, keep := range subsets(min(len(d.Ops), 4)) {
			l.add(impl.Crash, d, keep, 1)
			l.add(impl.Crash, d, keep, 99)
		}
		l.add(impl.Crash, d, []int64{0, 0}, 1)
		l.add(impl.Crash, d, nil, -1)
		for _, name := range append(names(), "", "f00") {
			l.add(impl.ReadFile, d, name)
			l.add(impl.Replace, d, name, "data")
		}
	}
	full := fullDrives(t)[0].disk()
	l.add(impl.Do, full, appended("f00", "more"))
	l.add(impl.Replace, full, "f00", "more")
}

func (l *callList) addStores() {
	r := numbers()
	for _, data := range []string{"", "abc", "0 n=a 1 5", strings.Repeat("x", maxFrameData+1)} {
		l.add(impl.FrameOf, data)
		l.add(impl.TakeFrames, frameText(data))
		l.add(impl.TakeFrames, frameText("abc")+frameText(data)+"x")
	}
	good := logOf("n=a 1 5", "n=b 1 5", "n=c 3 7")
	all := []drive{
		driveOf(nil),
		withLog(good),
		withLog(good + "x"),
		withLog(logOf("n=a 7 9")),
		{live: fileSet{"log": good}, safe: fileSet{"log": ""}, ops: []impl.DOp{appended("log", good)}},
		{live: fileSet{"log": good, "log.new": "x"}, safe: fileSet{"log.new": "x"}, ops: []impl.DOp{appended("log", good[:20]), appended("log", good[20:])}},
		{live: fileSet{"log": "1"}, safe: fileSet{"log": "2"}},
	}
	for _, d := range all {
		l.add(impl.StoreView, d.disk())
		var list []impl.Act
		for range 25 {
			a := randomAct(r, d, 50)
			l.add(impl.StoreDo, d.disk(), a)
			list = append(list, a)
		}
		for _, n := range []int{0, 1, 5, 25} {
			l.add(impl.StorePlay, d.disk(), list[:n])
		}
	}
}

func (l *callList) addHists() {
	r := numbers()
	for _, b := range append(boundLists(), invalidBounds()[:12]...) {
		l.add(impl.BoundsOk, b)
	}
	for _, points := range append(few(valuePoints(), 20), few(invalidPoints(), 4)...) {
		bounds := boundsNear(r, points)
		h := histOf(points, bounds)
		l.add(impl.HistOf, points, bounds)
		l.add(impl.HistOf, points, []int64{-5, 0, 5})
		l.add(impl.HistOf, points, []int64{5, 0})
		l.add(impl.HistAdd, h, h)
		l.add(impl.HistAdd, h, h[1:])
		for _, mille := range []int64{-1, 0, 333, 500, 1000, 1001} {
			l.add(impl.Quantile, points, mille)
			l.add(impl.HistRank, h, mille)
		}
	}
	l.add(impl.HistAdd, []int64{maxInSlot}, []int64{1})
}

func (l *callList) addChunks() {
	for _, points := range append(few(pointLists(), 20), few(invalidPoints(), 4)...) {
		for _, size := range []int64{0, 1, 7, maxPoints} {
			l.add(impl.Chunks, points, size)
			blocks := partsOf(points, max(int(size), 5)).blocks()
			l.add(impl.Unchunked, blocks)
			for _, at := range []int64{-1, points[0].T, points[len(points)-1].T, points[len(points)/2].T + 1, maxTime + 1} {
				l.add(impl.ChunkAt, blocks, at)
				l.add(impl.DropChunks, blocks, at)
			}
			l.add(impl.Rechunked, blocks, 3)
			l.add(impl.Rechunked, blocks, size)
		}
	}
	for _, b := range invalidBlocks() {
		l.add(impl.Unchunked, []impl.Block{b})
		l.add(impl.DropChunks, []impl.Block{b}, 0)
	}
}

func (l *callList) addScripts() {
	r := numbers()
	for range 40 {
		l.add(impl.RunScript, scriptOf(randomScriptLines(r, r.IntN(maxScript+2))...))
	}
	for _, text := range []string{"", "\n", "series", "series\n", " x\n", strings.Repeat(" ", maxScriptBytes) + "\n"} {
		l.add(impl.RunScript, text)
	}
}
