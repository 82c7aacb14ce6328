package tests

import (
	"slices"
	"testing"

	"loop.example/g01918/impl"
)

// satisfying tells for each repair in order whether the query holds in it, without the program.
func satisfying(q question) ([][]int, []bool) {
	repairs, witnesses := repairsInOrder(q.db), plainWitnesses(q)
	var holds []bool
	for _, repair := range repairs {
		holds = append(holds, containsSubset(witnesses, repair))
	}
	return repairs, holds
}

// isPlainCertain decides certainty without the program.
func isPlainCertain(q question) bool {
	_, holds := satisfying(q)
	return !slices.Contains(holds, false)
}

func TestCertainAndPossible(t *testing.T) {
	certain, possible := 0, 0
	for _, q := range questions() {
		q = q.roomy()
		_, holds := satisfying(q)
		check := watch(t, q.db, q.query)
		isCertain, isPossible := impl.IsCertain(q.db, q.query), impl.IsPossible(q.db, q.query)
		check()
		if isCertain != !slices.Contains(holds, false) || isPossible != slices.Contains(holds, true) {
			t.Errorf("%v: certain %v, possible %v, in the repairs %v", q, isCertain, isPossible, holds)
		}
		if isCertain {
			certain++
		} else if isPossible {
			possible++
		}
	}
	if certain < 50 || possible < 50 {
		t.Errorf("only %d certain and %d other possible questions", certain, possible)
	}
}

func TestFirstRepairsByRank(t *testing.T) {
	for _, q := range questions() {
		q = q.roomy()
		repairs, holds := satisfying(q)
		for _, wanted := range []bool{false, true} {
			find := impl.FalsifyingRepair
			if wanted {
				find = impl.SatisfyingRepair
			}
			check := watch(t, q.db, q.query)
			got, ok := find(q.db, q.query)
			again, _ := find(q.db, q.query)
			check(got, again)
			var want []int
			rank := slices.Index(holds, wanted)
			if rank >= 0 {
				want = repairs[rank]
			}
			if ok != (rank >= 0) || !slices.Equal(got, want) || !slices.Equal(again, want) {
				t.Errorf("%v: the first repair with %v is %v, %v, want %v", q, wanted, got, ok, want)
			}
			if ok && (!impl.IsRepair(q.db, got) || impl.HoldsIn(q.db, got, q.query) != wanted) {
				t.Errorf("%v: %v is no evidence for %v", q, got, wanted)
			}
		}
	}
}

func TestCountSatisfyingRepairs(t *testing.T) {
	for _, q := range questions() {
		q = q.roomy()
		_, holds := satisfying(q)
		want := 0
		for _, isSatisfying := range holds {
			if isSatisfying {
				want++
			}
		}
		check := watch(t, q.db, q.query)
		got := impl.CountSatisfyingRepairs(q.db, q.query)
		check()
		if got != want {
			t.Errorf("%v: %d repairs, want %d", q, got, want)
		}
		isCertain, isPossible := got == impl.CountRepairs(q.db), got > 0
		if impl.IsCertain(q.db, q.query) != isCertain || impl.IsPossible(q.db, q.query) != isPossible {
			t.Errorf("%v: the count %d does not agree", q, got)
		}
	}
}

func TestFreeVariablesAreExistential(t *testing.T) {
	for _, q := range questions() {
		closed := question{q.db, cloned(q.query)}
		closed.query.Free = nil
		for _, free := range subsets(q.query.VariableCount) {
			open := question{q.db, cloned(q.query)}
			open.query.Free = free
			if impl.IsCertain(open.db, open.query) != impl.IsCertain(closed.db, closed.query) ||
				impl.CountSatisfyingRepairs(open.db, open.query) != impl.CountSatisfyingRepairs(closed.db, closed.query) {
				t.Errorf("%v differs from %v", open, closed)
			}
		}
	}
}

func TestQueriesThatNeverHold(t *testing.T) {
	for _, q := range []question{
		ask("r1/2 s1/2:r0|0 r0|1 s0|5 s1|5 s1|6", "?rx|7"), ask("r1/2:r0|0 r0|1 r1|2", "x?rx|9"),
		ask("r1/2:", "?rx|y"), ask("r1/2 s1/2:r0|0 r0|1", "?rx|y sy|z"), ask("r1/2:r0|1 r0|2 r1|0", "?rx|x"),
		ask("r1/2 s1/2:r0|0 r0|1 s2|0 s3|0", "?rx|y sy|x"), ask("r2/3:r00|0 r00|1 r01|1", "?rx1|0"),
	} {
		first, _ := impl.NthRepair(q.db, 0)
		if got, ok := impl.FalsifyingRepair(q.db, q.query); !ok || !slices.Equal(got, first) {
			t.Errorf("%v: the first falsifying repair is %v, %v, want %v", q, got, ok, first)
		}
		if got, ok := impl.SatisfyingRepair(q.db, q.query); ok || len(got) != 0 {
			t.Errorf("%v: %v satisfies it", q, got)
		}
		if impl.IsCertain(q.db, q.query) || impl.IsPossible(q.db, q.query) || impl.CountSatisfyingRepairs(q.db, q.query) != 0 {
			t.Errorf("%v holds", q)
		}
	}
}

func TestHalfOfTheRepairs(t *testing.T) {
	q := ask("r1/2 s0/1:r0|0 r0|1 r1|1 s|0 s|1", "?r0|x sx")
	if got := impl.CountSatisfyingRepairs(q.db, q.query); got != 2 {
		t.Errorf("%v: %d repairs", q, got)
	}
	if got, ok := impl.FalsifyingRepair(q.db, q.query); !ok || !slices.Equal(got, []int{0, 2, 4}) {
		t.Errorf("%v: %v, %v", q, got, ok)
	}
	if got, ok := impl.SatisfyingRepair(q.db, q.query); !ok || !slices.Equal(got, []int{0, 2, 3}) {
		t.Errorf("%v: %v, %v", q, got, ok)
	}
}

func TestCertaintyOfUnsuitableQuestions(t *testing.T) {
	for _, q := range unsuitableQuestions() {
		q = q.roomy()
		check := watch(t, q.db, q.query)
		if got, ok := impl.FalsifyingRepair(q.db, q.query); ok || len(got) != 0 {
			t.Errorf("%v: FalsifyingRepair is %v", q, got)
		}
		if got, ok := impl.SatisfyingRepair(q.db, q.query); ok || len(got) != 0 {
			t.Errorf("%v: SatisfyingRepair is %v", q, got)
		}
		if impl.IsCertain(q.db, q.query) || impl.IsPossible(q.db, q.query) || impl.CountSatisfyingRepairs(q.db, q.query) != 0 {
			t.Errorf("%v holds", q)
		}
		check()
	}
}
