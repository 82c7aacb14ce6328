package tests

import (
	"math/rand"
	"slices"
	"strings"

	"loop.example/g01918/impl"
)

// question is a query and a database.
type question struct {
	db    impl.Database
	query impl.Query
}

func (q question) String() string {
	return databaseText(q.db) + " " + queryText(q.db.Relations, q.query)
}

func (q question) roomy() question {
	return question{roomy(q.db), roomy(q.query)}
}

// ask reads a database and a query for it, without the program.
func ask(db string, text string) question {
	d := database(db)
	return question{d, query(d.Relations, text)}
}

// query reads a query such as x?rx|y sy|1, without the program.
func query(relations []impl.Relation, s string) impl.Query {
	head, body, _ := strings.Cut(s, "?")
	q := impl.Query{Free: terms(head)}
	for _, part := range strings.Fields(body) {
		index := slices.IndexFunc(relations, func(r impl.Relation) bool { return r.Name == part[:1] })
		q.Atoms = append(q.Atoms, atom(index, terms(strings.ReplaceAll(part[1:], "|", ""))...))
	}
	q.VariableCount = len(usedVariables(q))
	return q
}

func terms(s string) []int {
	var terms []int
	for _, letter := range s {
		if variable := strings.IndexRune("xyzw", letter); variable >= 0 {
			terms = append(terms, variable)
		} else {
			terms = append(terms, -1-int(letter-'0'))
		}
	}
	return terms
}

// usedVariables returns the variables of the atoms in ascending order.
func usedVariables(q impl.Query) []int {
	var used []int
	for _, a := range q.Atoms {
		for _, term := range a.Terms {
			if term >= 0 && !slices.Contains(used, term) {
				used = append(used, term)
			}
		}
	}
	slices.Sort(used)
	return used
}

// namedQuestions are the edge cases, the limits and the questions on which the algorithms differ.
func namedQuestions() []question {
	const join = "r1/2 s1/2:r0|0 r0|1 r2|1 s0|5 s1|5 s1|6"
	const ladder = "r1/2 s1/2:r0|0 r0|1 r1|1 r1|2 r2|0 r2|2 s0|0 s0|2 s1|0 s1|1 s2|1 s2|2"
	const openLadder = "r1/2 s1/2:r0|0 r1|1 r1|2 r2|0 r2|2 s0|0 s0|2 s1|1 s2|1 s2|2"
	const twice = "r1/3:r0|00 r0|01 r0|11 r1|01 r1|10 r2|22 r3|33"
	const keys = "a0/2 b1/1 c1/3:a|00 a|01 a|11 b0 b1 c0|00 c0|01 c1|11"
	return []question{
		ask(join, "x?rx|y sy|z"), ask(join, "?rx|y sy|z"), ask(join, "?sy|z rx|y"), ask(join, "?rx|y sy|5"), ask(join, "?rx|y sz|w"),
		ask(join, "?r0|x s1|5"), ask(join, "?r0|0"), ask(join, "?s1|x"), ask(join, "xyz?rx|y sy|z"), ask(join, "?rx|y sz|y"),
		ask(join, "?rx|x"), ask(join, "x?rx|x sx|y"), ask(join, "?rx|7"), ask(join, "?rx|x sx|x"), ask(join, "?r9|x sx|y"),
		ask(twice, "?rx|xx"), ask(twice, "?rx|yy"), ask(twice, "?rx|yx"), ask(twice, "?rx|xy"), ask(twice, "x?rx|0x"), ask(twice, "?rx|00"),
		ask(keys, "?a|xy bx cy|xy"), ask(keys, "?bx a|xx"), ask(keys, "?cx|yz a|yz bx"), ask(keys, "?bx"), ask(keys, "?a|x1"), ask(keys, "?bx cx|xx"),
		ask(ladder, "?rx|y sy|x"), ask(openLadder, "?rx|y sy|x"), ask(ladder, "x?rx|y sy|x"), ask(ladder, "?sx|y ry|x"), ask(ladder, "?rx|y sz|y"),
		ask("r1/2 s1/2:", "?rx|y sy|z"), ask("r1/2:", "x?rx|y"), ask("r1/2 s1/2:r0|0", "?rx|y sy|z"), ask("r1/2 s1/2:s0|0", "?rx|y sy|z"),
		ask("r0/1 s0/1 t0/1:r|0 r|1 r|2 r|3 r|4 s|0 s|1 s|2 s|3 s|4 t|0 t|1 t|2 t|3", "?rx sy tz"),
		ask("r1/2 s1/2 t1/2:r0|0 r0|1 r0|2 r0|3 r1|1 s0|0 s0|1 s0|2 s1|0 s1|1 t0|0 t0|1 t0|2 t1|1", "?rx|y sy|z tz|w"),
		ask("r1/2:r0|0 r0|1 r0|2 r1|0 r1|1 r1|2 r2|0 r2|1 r2|2 r3|0 r3|1 r3|2 r4|0 r4|1", "?rx|x"),
		ask("r0/2:r|00 r|01 r|02 r|03 r|04 r|05 r|06 r|07 r|08 r|09 r|10 r|11 r|12 r|13", "xy?r|xy"),
		ask("r2/2:r00 r01 r02 r03 r04 r05 r06 r07 r08 r09 r10 r11 r12 r99", "?rxx"),
		ask("r1/2 s1/2 t1/2:r0|0 r1|1 s0|0 s0|1 t0|1 t1|0 t1|1", "?rx|y sy|z tz|x"),
		ask("p1/2 r1/2 s1/2 t1/2:p0|0 p0|1 r0|0 r0|1 r1|1 s0|0 s1|0 s1|1 t0|0 t0|1", "?px|y ry|x tz|x"),
	}
}

// randomQuestions returns questions with few values, so that joins succeed often. The seed is fixed by the caller.
func randomQuestions(seed int64, count int) []question {
	random := rand.New(rand.NewSource(seed))
	schemas := []string{
		"r1/2 s1/2", "r1/2 s1/2 t1/2", "r1/2 s2/2 t0/1", "r1/2 s1/2", "a0/2 b1/1 c1/3", "q1/1 r2/3 s1/2 t1/2", "r1/3 s2/3", "u2/2 v1/2 w1/2",
	}
	var questions []question
	for i := range count {
		relations := schema(schemas[i%len(schemas)])
		questions = append(questions, question{randomFacts(random, relations), randomQuery(random, relations)})
	}
	return questions
}

func randomFacts(random *rand.Rand, relations []impl.Relation) impl.Database {
	db := impl.Database{Relations: relations}
	values := 2 + random.Intn(2)
	for range random.Intn(20) {
		f := fact(random.Intn(len(relations)))
		for range relations[f.Relation].Arity {
			f.Values = append(f.Values, random.Intn(values))
		}
		if len(db.Facts) < impl.MaxFacts && !slices.ContainsFunc(db.Facts, func(g impl.Fact) bool { return sameFact(f, g) }) {
			db.Facts = append(db.Facts, f)
		}
	}
	slices.SortFunc(db.Facts, orderOfFacts)
	return db
}

func randomQuery(random *rand.Rand, relations []impl.Relation) impl.Query {
	var q impl.Query
	variables := 1 + random.Intn(4)
	atoms := min(1+random.Intn(4), 3, len(relations))
	for _, r := range random.Perm(len(relations))[:atoms] {
		a := atom(r)
		for range relations[r].Arity {
			if random.Intn(12) == 0 {
				a.Terms = append(a.Terms, -1-random.Intn(2))
			} else {
				a.Terms = append(a.Terms, random.Intn(variables))
			}
		}
		q.Atoms = append(q.Atoms, a)
	}
	used := usedVariables(q)
	for _, a := range q.Atoms {
		for i, term := range a.Terms {
			if term >= 0 {
				a.Terms[i] = slices.Index(used, term)
			}
		}
	}
	q.VariableCount = len(used)
	for v := range used {
		if random.Intn(9) == 0 {
			q.Free = append(q.Free, v)
		}
	}
	return q
}

// questions returns the questions that most tests go through.
func questions() []question {
	return append(namedQuestions(), randomQuestions(12, 600)...)
}

// questionsUpTo leaves out the questions with more facts.
func questionsUpTo(facts int) []question {
	return slices.DeleteFunc(questions(), func(q question) bool { return len(q.db.Facts) > facts })
}

// unsuitableQuestions have an invalid database or a query that is not one for the database.
func unsuitableQuestions() []question {
	relations, sample := sampleQuery()
	db := database("r1/2 s1/2 t2/2:r0|0 r0|1 s0|0 s1|2 t10 t11")
	questions := []question{
		{}, {db: db}, {query: sample}, {database("r1/2:r0|0"), sample}, {database("r1/3:r0|00"), query(schema("r1/2"), "?rx|y")},
	}
	for _, q := range changedQueries() {
		if !isPlainQuery(relations, q) {
			questions = append(questions, question{db, q})
		}
	}
	for _, db := range invalidDatabases() {
		questions = append(questions,
			question{db, impl.Query{VariableCount: 2, Atoms: []impl.Atom{atom(0, 0, 1)}}},
			question{db, impl.Query{VariableCount: 2, Atoms: []impl.Atom{atom(0, 0, 1), atom(1, 1, 0)}}})
	}
	return questions
}

// isSubset expects ascending lists.
func isSubset(a, b []int) bool {
	return !slices.ContainsFunc(a, func(i int) bool { return !slices.Contains(b, i) })
}

func containsSubset(sets [][]int, set []int) bool {
	return slices.ContainsFunc(sets, func(other []int) bool { return isSubset(other, set) })
}
