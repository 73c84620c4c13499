package shelf_test

import (
	"yieldshape/api"
)

// hand plays the first task of a program, written down a second time, as far as its feeds go.
type hand struct {
	api.Report
	feeds [][]int64
	units int // at work
}

// rested is thrown where the task can't go on.
type rested struct{}

func (h *hand) trap(by int) {
	h.State, h.Trap = api.Trapped, by
	panic(rested{})
}

func (h *hand) recv(box int) int64 {
	n := h.Took[box]
	if n == len(h.feeds[box]) {
		h.State, h.Box = api.Waiting, box
		panic(rested{})
	}
	h.Took[box]++
	return h.feeds[box][n]
}

func (h *hand) next() int64 { return h.recv(0) }

func (h *hand) put(v int64) { h.Out = append(h.Out, v) }

func (h *hand) send(box int, v int64) { h.Sent[box] = append(h.Sent[box], v) }

// call lets one more unit be at work.
func (h *hand) call(work func() int64) int64 {
	if h.units == api.MaxFrames {
		h.trap(api.TrapStack)
	}
	h.units++
	v := work()
	h.units--
	return v
}

func (h *hand) fact(n int64) int64 {
	return h.call(func() int64 {
		if n < 2 {
			return 1
		}
		return n * h.fact(n-1)
	})
}

func (h *hand) gcd(a, b int64) int64 {
	return h.call(func() int64 {
		if b == 0 {
			return a
		}
		return h.gcd(b, a%b)
	})
}

// byHand answers what a program's first task is told by hand, Steps left out.
func byHand(name string, fed [][]int64) api.Report {
	h := &hand{feeds: fed, units: 1}
	h.Sent, h.Took = make([][]int64, len(fed)), make([]int, len(fed))
	func() {
		defer func() {
			if thrown := recover(); thrown != nil {
				_ = thrown.(rested)
			}
		}()
		if each := steady(h)[name]; each != nil {
			for {
				each()
			}
		}
		others(h)[name]()
		h.State = api.Done
	}()
	return h.Report
}

// steady are programs that do the same again and again.
func steady(h *hand) map[string]func() {
	return map[string]func(){
		"bits":    func() { h.put(digitsOf(h.next(), 2)) },
		"digits":  func() { h.put(digitsOf(h.next(), 10)) },
		"collatz": func() { h.put(collatz(h.next())) },
		"double":  func() { h.put(2 * h.next()) },
		"evens": func() {
			if x := h.next(); x&1 == 0 {
				h.put(x)
			}
		},
		"fact": func() { h.put(h.fact(h.next())) },
		"gate": func() {
			if x := h.next(); h.recv(1) == 1 {
				h.put(x)
			}
		},
		"gcd": func() {
			a := h.next()
			h.put(h.gcd(a, h.next()))
		},
		"pairs": func() {
			a := h.next()
			h.put(a - h.next())
		},
		"power": func() {
			x := h.next()
			h.put(power(x, h.next()))
		},
		"prime": func() { h.put(prime(h.next())) },
		"turns": func() {
			h.put(h.next() + 1)
			h.put(h.next() - 1)
		},
		"zip": func() {
			a := h.next()
			h.put(a + h.recv(1))
		},
	}
}

// others are programs that keep something in mind.
func others(h *hand) map[string]func() {
	return map[string]func(){
		"average":  func() { average(h) },
		"changes":  func() { changes(h) },
		"dedupe":   func() { dedupe(h) },
		"fib":      func() { fib(h) },
		"greatest": func() { greatest(h) },
		"merge":    func() { merge(h) },
		"pingpong": func() {
			for x := int64(1); x < 100; h.put(x) {
				h.send(0, x)
				x = h.recv(1)
			}
		},
		"rounds": func() { rounds(h) },
		"sieve": func() {
			for i := range int64(24) {
				h.send(0, i+2)
			}
		},
		"sums": func() {
			for s := h.next(); ; s += h.next() {
				h.put(s)
			}
		},
		"until": func() {
			for x := h.next(); x != 0; x = h.next() {
				h.put(x)
			}
		},
		"window": func() {
			for a, b := h.next(), h.next(); ; {
				c := h.next()
				h.put(a + b + c)
				a, b = b, c
			}
		},
	}
}

func digitsOf(x, base int64) int64 {
	if x <= 0 {
		return 0
	}
	return x%base + digitsOf(x/base, base)
}

func collatz(n int64) int64 {
	switch {
	case n <= 1:
		return 0
	case n%2 == 0:
		return 1 + collatz(n/2)
	}
	return 1 + collatz(3*n+1)
}

func power(x, n int64) int64 {
	p := int64(1)
	for bit := range 63 {
		if n > 0 && n>>bit&1 == 1 {
			p *= x
		}
		x *= x
	}
	return p
}

func prime(n int64) int64 {
	divisors := 0
	for d := int64(1); d <= n; d++ {
		if n%d == 0 {
			divisors++
		}
	}
	if divisors == 2 {
		return 1
	}
	return 0
}

func average(h *hand) {
	for s, n := int64(0), int64(1); ; n++ {
		s += h.next()
		h.put(s / n)
	}
}

func changes(h *hand) {
	last, n := h.next(), int64(1)
	for {
		switch x := h.next(); x {
		case last:
			n++
		default:
			h.put(last)
			h.put(n)
			last, n = x, 1
		}
	}
}

func dedupe(h *hand) {
	for {
		x := h.next()
		if n := len(h.Out); n == 0 || h.Out[n-1] != x {
			h.put(x)
		}
	}
}

func fib(h *hand) {
	for a, b := int64(0), int64(1); ; {
		for n := h.next(); n > 0; n-- {
			h.put(a)
			a, b = b, a+b
		}
	}
}

func greatest(h *hand) {
	for m := h.next(); ; m = max(m, h.next()) {
		h.put(m)
	}
}

func merge(h *hand) {
	for x, y := h.recv(0), h.recv(1); ; {
		h.put(min(x, y))
		if x <= y {
			x = h.recv(0)
		} else {
			y = h.recv(1)
		}
	}
}

// rounds starts one generator first, then one for each word.
func rounds(h *hand) {
	for started := 1; ; started++ {
		n := max(h.next(), 0)
		if started == api.MaxCos {
			h.trap(api.TrapMany)
		}
		h.put(n * (n - 1) / 2)
	}
}
