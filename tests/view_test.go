package tests

import (
	"math"
	"math/rand"
	"slices"
	"testing"

	"loop.example/g01918/impl"
)

func sameView(a, b impl.View) bool {
	return sameDatabase(a.Database, b.Database) && sameQuery(a.Query, b.Query) && equalLists(a.CertainRows, b.CertainRows) && equalLists(a.UncertainRows, b.UncertainRows)
}

func isZeroView(view impl.View) bool {
	return sameView(view, impl.View{})
}

// plainView answers without the program.
func plainView(q question) impl.View {
	certain, uncertain := plainAnswers(q)
	return impl.View{Database: q.db, Query: q.query, CertainRows: certain, UncertainRows: uncertain}
}

func plainDifference(a, b [][]int) [][]int {
	return slices.DeleteFunc(slices.Clone(a), func(row []int) bool { return hasRow(b, row) })
}

// viewQuestions are small questions, most of them with free variables.
func viewQuestions() []question {
	var all []question
	for i, q := range questionsUpTo(8) {
		if len(q.query.Free) == 0 {
			q.query.Free = subsets(q.query.VariableCount)[i%(1<<q.query.VariableCount)]
		}
		all = append(all, q)
	}
	return all
}

func TestNewView(t *testing.T) {
	counts := map[bool]int{}
	for _, q := range append(questions(), viewQuestions()...) {
		q = q.roomy()
		want := plainView(q)
		check := watch(t, q.db, q.query)
		got, ok := impl.NewView(q.db, q.query)
		again, _ := impl.NewView(q.db, q.query)
		check(got, again)
		if !ok || !sameView(got, want) || !sameView(again, want) {
			t.Errorf("%v: %v, %v, want %v", q, got, ok, want)
		}
		if !impl.IsValidView(got) || !impl.IsValidView(roomy(want)) {
			t.Errorf("%v: the view %v is refused", q, got)
		}
		counts[len(got.CertainRows) > 0 && len(got.UncertainRows) > 0]++
	}
	if counts[true] < 20 || counts[false] < 50 {
		t.Error(counts)
	}
}

// viewChanges returns views that differ from the given one, most of them in one place.
func viewChanges(view impl.View) []impl.View {
	changes := []func(*impl.View){
		func(v *impl.View) { v.CertainRows = nil },
		func(v *impl.View) { v.UncertainRows = nil },
		func(v *impl.View) { v.CertainRows = append(v.CertainRows, []int{}) },
		func(v *impl.View) { v.CertainRows = append(v.CertainRows, []int{9}) },
		func(v *impl.View) { v.UncertainRows = append(v.UncertainRows, []int{0, 0}) },
		func(v *impl.View) { v.CertainRows, v.UncertainRows = v.UncertainRows, v.CertainRows },
		func(v *impl.View) { v.CertainRows = append(v.CertainRows, v.UncertainRows...) },
		func(v *impl.View) { slices.Reverse(v.CertainRows) },
		func(v *impl.View) { slices.Reverse(v.UncertainRows) },
		func(v *impl.View) { v.Database = impl.Database{} },
		func(v *impl.View) { v.Query = impl.Query{} },
		func(v *impl.View) { v.Query.Free = nil },
		func(v *impl.View) { v.Query.VariableCount++ },
		func(v *impl.View) { v.Query.Atoms[0].Relation = math.MaxInt },
		func(v *impl.View) { v.Database.Relations[0].Arity = math.MinInt },
		func(v *impl.View) { slices.Reverse(v.Database.Facts) },
	}
	if len(view.CertainRows) > 0 {
		changes = append(changes,
			func(v *impl.View) { v.CertainRows = v.CertainRows[1:] },
			func(v *impl.View) { v.CertainRows = append(v.CertainRows, v.CertainRows[0]) },
			func(v *impl.View) { v.CertainRows[0] = append(v.CertainRows[0], 0) })
	}
	if len(view.UncertainRows) > 0 {
		changes = append(changes,
			func(v *impl.View) { v.UncertainRows = v.UncertainRows[1:] },
			func(v *impl.View) { v.UncertainRows[0] = append(v.UncertainRows[0], 0) })
	}
	if len(view.Database.Facts) > 0 {
		changes = append(changes,
			func(v *impl.View) { v.Database.Facts = v.Database.Facts[1:] },
			func(v *impl.View) { v.Database.Facts[0].Values[0] = 8 })
	}
	var views []impl.View
	for _, change := range changes {
		changed := cloned(view)
		change(&changed)
		views = append(views, changed)
	}
	return views
}

func TestChangedViews(t *testing.T) {
	counts := map[bool]int{}
	for _, q := range viewQuestions() {
		view := plainView(q)
		for _, changed := range viewChanges(view) {
			changed = roomy(changed)
			isSuitable := impl.IsQueryFor(changed.Database, changed.Query)
			want := isSuitable && sameView(changed, plainView(question{changed.Database, changed.Query}))
			check := watch(t, changed, view)
			got, isEqual, isMirrored := impl.IsValidView(changed), impl.EqualViews(changed, view), impl.EqualViews(view, changed)
			same, added, removed, ok := impl.UpdateView(changed, edit(1, fact(0, 8, 8)))
			check(same, added, removed)
			if got != want || isEqual != sameView(changed, view) || isMirrored != isEqual {
				t.Errorf("%v: %v is valid: %v, equal: %v, %v", q, changed, got, isEqual, isMirrored)
			}
			if !want && (ok || !sameView(same, changed) || len(added) != 0 || len(removed) != 0) {
				t.Errorf("%v: %v is updated: %v, %v, %v, %v", q, changed, same, added, removed, ok)
			}
			counts[got]++
		}
	}
	if counts[true] < 100 || counts[false] < 500 {
		t.Error(counts)
	}
}

func TestUpdateView(t *testing.T) {
	random := rand.New(rand.NewSource(33))
	counts := map[[2]bool]int{}
	for _, q := range viewQuestions() {
		view := plainView(q.roomy())
		edits := randomEdits(random, q.db)
		for _, f := range randomFacts(random, q.db.Relations).Facts {
			edits = append(edits, edit(1+random.Intn(3), f))
		}
		for _, e := range edits {
			e = roomy(e)
			db, wantOK := plainEdit(view.Database, e)
			want := plainView(question{db, view.Query})
			wantAdded, wantRemoved := plainDifference(want.CertainRows, view.CertainRows), plainDifference(view.CertainRows, want.CertainRows)
			check := watch(t, view, e)
			got, added, removed, ok := impl.UpdateView(view, e)
			again, addedAgain, removedAgain, _ := impl.UpdateView(view, e)
			check(got, added, removed, again, addedAgain, removedAgain)
			if ok != wantOK || !sameView(got, want) || !sameView(again, want) {
				t.Fatalf("%v: %v gives %v, %v, want %v", view, e, got, ok, want)
			}
			if !equalLists(added, wantAdded) || !equalLists(removed, wantRemoved) || !equalLists(addedAgain, added) || !equalLists(removedAgain, removed) {
				t.Fatalf("%v: %v adds %v and removes %v, want %v and %v", view, e, added, removed, wantAdded, wantRemoved)
			}
			if fresh, isFresh := impl.NewView(db, q.query); !isFresh || !impl.EqualViews(got, fresh) || !impl.IsValidView(got) {
				t.Fatalf("%v: %v gives %v, but a new view is %v", view, e, got, fresh)
			}
			counts[[2]bool{len(added) > 0, len(removed) > 0}]++
			view = roomy(got)
		}
	}
	if counts[[2]bool{true, false}] < 50 || counts[[2]bool{false, true}] < 50 || counts[[2]bool{false, false}] < 50 {
		t.Error(counts)
	}
}

func TestRowThatAppearsAndDisappears(t *testing.T) {
	q := ask("r1/2 s1/2:r2|1 s0|5 s1|6", "x?rx|y sy|6")
	view, _ := impl.NewView(q.db, q.query)
	for _, c := range []struct{ edit, certain, uncertain, added, removed string }{
		{"+r0|1", "(0) (2)", "", "(0)", ""}, {"+r0|0", "(2)", "(0)", "", "(0)"}, {"!r0|0", "(2)", "", "", ""}, {"+r0|1", "(2)", "(0)", "", ""},
		{"!r0|1", "(0) (2)", "", "(0)", ""}, {"-r0|1", "(2)", "", "", "(0)"}, {"+s1|7", "", "(2)", "", "(2)"}, {"-s1|6", "", "", "", ""}, {"+s1|6", "", "(2)", "", ""},
		{"!s1|6", "(2)", "", "(2)", ""}, {"!s0|5", "(2)", "", "", ""}, {"+r1|1", "(1) (2)", "", "(1)", ""},
	} {
		e, _ := impl.ParseEdit(view.Database, c.edit)
		updated, added, removed, ok := impl.UpdateView(view, e)
		if !ok || impl.FormatRows(updated.CertainRows) != c.certain || impl.FormatRows(updated.UncertainRows) != c.uncertain {
			t.Errorf("%s: %v and %v, %v", c.edit, updated.CertainRows, updated.UncertainRows, ok)
		}
		if impl.FormatRows(added) != c.added || impl.FormatRows(removed) != c.removed {
			t.Errorf("%s: %v and not %v", c.edit, added, removed)
		}
		view = updated
	}
	closed := ask("r1/2:r0|0", "?rx|0")
	view, _ = impl.NewView(closed.db, closed.query)
	without, added, removed, ok := impl.UpdateView(view, edit(2, fact(0, 0, 0)))
	if !ok || len(added) != 0 || !equalLists(removed, [][]int{{}}) || len(without.CertainRows) != 0 {
		t.Errorf("the row of a closed query: %v, %v, %v, %v", without, added, removed, ok)
	}
	if again, added, removed, ok := impl.UpdateView(without, edit(1, fact(0, 3, 0))); !ok || !equalLists(added, [][]int{{}}) || len(removed) != 0 || len(again.CertainRows) != 1 {
		t.Errorf("the row of a closed query: %v, %v, %v, %v", again, added, removed, ok)
	}
}

func TestEditThatCannotBeAppliedToAView(t *testing.T) {
	q := ask("r1/2 s1/2:r0|0 r0|1 r2|1 s0|5 s1|6", "x?rx|y sy|6")
	view, _ := impl.NewView(q.db, q.query)
	view = roomy(view)
	for _, e := range []impl.Edit{{}, edit(1, fact(0, 0, 0)), edit(2, fact(0, 9, 9)), edit(3, fact(1, 0, 6)), edit(4, fact(0, 0, 0)), edit(1, fact(0, 0, 10)), edit(1, fact(-1))} {
		check := watch(t, view, e)
		same, added, removed, ok := impl.UpdateView(view, e)
		check(same, added, removed)
		if ok || !sameView(same, view) || len(added) != 0 || len(removed) != 0 {
			t.Errorf("%v: %v, %v, %v, %v", e, same, added, removed, ok)
		}
	}
}

func TestViewsOfUnsuitableQuestions(t *testing.T) {
	for _, q := range unsuitableQuestions() {
		q = q.roomy()
		check := watch(t, q.db, q.query)
		got, ok := impl.NewView(q.db, q.query)
		check(got)
		if ok || !isZeroView(got) {
			t.Errorf("%v, %v: %v, %v", q.db, q.query, got, ok)
		}
		for _, rows := range [][][]int{nil, {{}}, {{0}, {1}}} {
			view := roomy(impl.View{Database: q.db, Query: q.query, CertainRows: rows, UncertainRows: rows})
			e := edit(1, fact(0, 5, 5))
			check := watch(t, view, e)
			isValid := impl.IsValidView(view)
			same, added, removed, ok := impl.UpdateView(view, e)
			check(same, added, removed)
			if isValid || ok || !sameView(same, view) || len(added) != 0 || len(removed) != 0 {
				t.Errorf("%v: valid %v, updated: %v, %v, %v, %v", view, isValid, same, added, removed, ok)
			}
			if !impl.EqualViews(view, same) || impl.EqualViews(view, impl.View{}) != isZeroView(view) {
				t.Errorf("%v is not equal to a copy, or is to the zero view", view)
			}
		}
	}
}

func TestRowDifference(t *testing.T) {
	random := rand.New(rand.NewSource(34))
	counts := map[bool]int{}
	for range 3000 {
		a, b := roomy(randomSets(random)), roomy(randomSets(random))
		want := plainDifference(a, b)
		check := watch(t, a, b)
		got, again := impl.RowDifference(a, b), impl.RowDifference(a, b)
		check(got, again)
		if !equalLists(got, want) || !equalLists(again, want) {
			t.Errorf("RowDifference(%v, %v) = %v, want %v", a, b, got, want)
		}
		counts[len(got) > 0 && len(got) < len(a)]++
	}
	if counts[true] < 500 || counts[false] < 500 {
		t.Error(counts)
	}
	for _, c := range []struct{ a, b, want [][]int }{
		{[][]int{{1}, {2}, {1}}, [][]int{{2}}, [][]int{{1}, {1}}}, {[][]int{{}, {1}, {}}, nil, [][]int{{}, {1}, {}}}, {[][]int{{}, {1}}, [][]int{nil}, [][]int{{1}}},
		{nil, [][]int{{1}}, nil}, {[][]int{{1, 2}, {1}}, [][]int{{1}, {2, 1}}, [][]int{{1, 2}}}, {[][]int{{3}, {1}, {2}}, nil, [][]int{{3}, {1}, {2}}},
	} {
		if got := impl.RowDifference(c.a, c.b); !equalLists(got, c.want) {
			t.Errorf("RowDifference(%v, %v) = %v, want %v", c.a, c.b, got, c.want)
		}
	}
}
