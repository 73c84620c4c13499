package shelf

// program is one that stands ready.
type program struct{ name, text string }

// programs answers all that stand ready, by rising names.
func programs() []program {
	return []program{
		{"average", average},
		{"bits", bits},
		{"changes", changes},
		{"collatz", collatz},
		{"dedupe", dedupe},
		{"digits", digits},
		{"double", double},
		{"evens", evens},
		{"fact", fact},
		{"fib", fib},
		{"gate", gate},
		{"gcd", gcd},
		{"greatest", greatest},
		{"merge", merge},
		{"pairs", pairs},
		{"pingpong", pingpong},
		{"power", power},
		{"prime", prime},
		{"rounds", rounds},
		{"sieve", sieve},
		{"sums", sums},
		{"turns", turns},
		{"until", until},
		{"window", window},
		{"zip", zip},
	}
}

const average = `box in num 20 ;
gen mean() takes num yields num {
  let s = 0 ;
  let n = 0 ;
  let x = yield(0) ;
  while true { s = s + x ; n = n + 1 ; x = yield(s / n) ; }
}
task main {
  let m = start mean() ;
  do resume(m, 0) ;
  while true { out resume(m, recv(in)) ; }
}
`

const bits = `box in num 20 ;
task main {
  while true {
    let x = recv(in) ;
    let n = 0 ;
    while x > 0 { n = n + x % 2 ; x = x / 2 ; }
    out n ;
  }
}
`

const changes = `box in num 20 ;
task main {
  let last = recv(in) ;
  let n = 1 ;
  while true {
    let x = recv(in) ;
    if x == last { n = n + 1 ; } else { out last ; out n ; last = x ; n = 1 ; }
  }
}
`

const collatz = `box in num 20 ;
task main {
  while true {
    let n = recv(in) ;
    let k = 0 ;
    while n > 1 {
      if n % 2 == 0 { n = n / 2 ; } else { n = 3 * n + 1 ; }
      k = k + 1 ;
    }
    out k ;
  }
}
`

const dedupe = `box in num 20 ;
task main {
  let last = recv(in) ;
  out last ;
  while true {
    let x = recv(in) ;
    if x != last { out x ; last = x ; }
  }
}
`

const digits = `box in num 20 ;
task main {
  while true {
    let x = recv(in) ;
    let s = 0 ;
    while x > 0 { s = s + x % 10 ; x = x / 10 ; }
    out s ;
  }
}
`

const double = `box in num 20 ;
task main {
  while true { out recv(in) * 2 ; }
}
`

const evens = `box in num 20 ;
task main {
  while true {
    let x = recv(in) ;
    if x % 2 == 0 { out x ; }
  }
}
`

const fact = `box in num 20 ;
fn fact(n num) num {
  if n < 2 { return 1 ; }
  return n * fact(n - 1) ;
}
task main {
  while true { out fact(recv(in)) ; }
}
`

const fib = `box in num 20 ;
# each number asks for as many
gen fibs() takes bool yields num {
  let a = 0 ;
  let b = 1 ;
  while yield(a) { let c = a + b ; a = b ; b = c ; }
}
task main {
  let f = start fibs() ;
  while true {
    let n = recv(in) ;
    while n > 0 { out resume(f, true) ; n = n - 1 ; }
  }
}
`

const gate = `box in num 20 ;
box open bool 20 ;
task main {
  while true {
    let x = recv(in) ;
    if recv(open) { out x ; }
  }
}
`

const gcd = `box in num 20 ;
fn gcd(a num, b num) num {
  if b == 0 { return a ; }
  return gcd(b, a % b) ;
}
task main {
  while true { out gcd(recv(in), recv(in)) ; }
}
`

const greatest = `box in num 20 ;
fn max(a num, b num) num {
  if a < b { return b ; }
  return a ;
}
task main {
  let m = recv(in) ;
  while true { out m ; m = max(m, recv(in)) ; }
}
`

const merge = `box a num 20 ;
box b num 20 ;
task main {
  let x = recv(a) ;
  let y = recv(b) ;
  while true {
    if x <= y { out x ; x = recv(a) ; } else { out y ; y = recv(b) ; }
  }
}
`

const pairs = `box in num 20 ;
task main {
  while true { out recv(in) - recv(in) ; }
}
`

const pingpong = `box ping num 1 ;
box pong num 1 ;
task one {
  let x = 1 ;
  while x < 100 { send ping x ; x = recv(pong) ; out x ; }
}
task other {
  while true { send pong recv(ping) * 2 ; }
}
`

const power = `box in num 20 ;
task main {
  while true {
    let x = recv(in) ;
    let n = recv(in) ;
    let p = 1 ;
    while n > 0 {
      if n % 2 == 1 { p = p * x ; }
      x = x * x ;
      n = n / 2 ;
    }
    out p ;
  }
}
`

const prime = `box in num 20 ;
fn prime(n num) bool {
  if n < 2 { return false ; }
  let d = 2 ;
  while d * d <= n {
    if n % d == 0 { return false ; }
    d = d + 1 ;
  }
  return true ;
}
task main {
  while true { out prime(recv(in)) ; }
}
`

const rounds = `box in num 20 ;
# a generator within a generator
gen inner(n num) takes bool yields num {
  let i = 0 ;
  while i < n { do yield(i) ; i = i + 1 ; }
}
gen outer() takes num yields num {
  let n = yield(0) ;
  while true {
    let g = start inner(n) ;
    let s = 0 ;
    while alive(g) { s = s + resume(g, true) ; }
    n = yield(s) ;
  }
}
task main {
  let o = start outer() ;
  do resume(o, 0) ;
  while true { out resume(o, recv(in)) ; }
}
`

const sieve = `box ints num 1 ;
box odd num 1 ;
box rest num 1 ;
task numbers {
  let i = 2 ;
  while i < 26 { send ints i ; i = i + 1 ; }
}
task two {
  out 2 ;
  while true { let x = recv(ints) ; if x % 2 != 0 { send odd x ; } }
}
task three {
  out 3 ;
  while true { let x = recv(odd) ; if x % 3 != 0 { send rest x ; } }
}
task others {
  while true { let x = recv(rest) ; if x % 5 != 0 { out x ; } else { if x == 5 { out x ; } } }
}
`

const sums = `box in num 20 ;
task main {
  let s = 0 ;
  while true { s = s + recv(in) ; out s ; }
}
`

const turns = `box in num 20 ;
# two that take turns
gen plus(k num) takes num yields num {
  let x = yield(0) ;
  while true { x = yield(x + k) ; }
}
task main {
  let a = start plus(1) ;
  let b = start plus(-1) ;
  do resume(a, 0) ;
  do resume(b, 0) ;
  while true { out resume(a, recv(in)) ; out resume(b, recv(in)) ; }
}
`

const until = `box in num 20 ;
task main {
  let x = recv(in) ;
  while x != 0 { out x ; x = recv(in) ; }
}
`

const window = `box in num 20 ;
task main {
  let a = recv(in) ;
  let b = recv(in) ;
  while true {
    let c = recv(in) ;
    out a + b + c ;
    a = b ;
    b = c ;
  }
}
`

const zip = `box a num 20 ;
box b num 20 ;
task main {
  while true { out recv(a) + recv(b) ; }
}
`
