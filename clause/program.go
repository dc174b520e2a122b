package clause

// Predicate is what a goal means: clauses are told apart by their number of arguments, too.
type Predicate struct {
	Name  string
	Arity int
}

// Program is a table of the clauses of each predicate, in their order.
type Program map[Predicate][]Clause

// NewProgram makes the table of a program's clauses.
func NewProgram(clauses []Clause) Program {
	program := Program{}
	for _, c := range clauses {
		p := Predicate{c.Head.Name, len(c.Head.Args)}
		program[p] = append(program[p], c)
	}
	return program
}
