package term

// Unmet, in an order, is a new variable that stands nowhere else and that nothing has asked for yet.
//
// A line of a code can write a row of thousands of arguments, but of few different ones: without an order, doing it again and again would take more room than there is.
const Unmet = -1

// Arity tells how many arguments there are.
func (c *Compound) Arity() int {
	if c.Order == nil {
		return len(c.Args)
	}
	return len(c.Order)
}

// Arg tells the argument at a place.
func (c *Compound) Arg(place int) Term {
	if c.Order == nil {
		return c.Args[place]
	}
	number := c.Order[place]
	if number == Unmet {
		number = c.meet(place)
	}
	return c.Args[number]
}

// meet tells which of Args stands at a place that is Unmet. The order is not its own to change: others share it.
func (c *Compound) meet(place int) int {
	number, ok := c.met[place]
	if !ok {
		if c.met == nil {
			c.met = map[int]int{}
		}
		number = len(c.Args)
		c.met[place] = number
		c.Args = append(c.Args, &Var{})
	}
	return number
}
