package tests

import (
	"math"
	"testing"

	"loop.example/rationalstreams/impl"
)

func TestP55PrimesAreJustSix(t *testing.T) {
	var found []int
	for p := -3000; p <= 3000; p++ {
		if impl.PrimeOk(p) {
			found = append(found, p)
		}
	}
	if len(found) != 6 {
		t.Fatal("it holds for", found)
	}
	for i, p := range primes {
		if found[i] != p {
			t.Fatal("it holds for", found)
		}
		for d := 2; d < p; d++ {
			if p%d == 0 {
				t.Fatal(p, "has the divisor", d)
			}
		}
	}
	for _, p := range noPrimes {
		if impl.PrimeOk(p) {
			t.Fatal(p, "is no prime of the six")
		}
	}
	if impl.MaxPrime != 13 || impl.MaxRows != 8 {
		t.Fatal("constants", impl.MaxPrime, impl.MaxRows)
	}
}

func TestP56ZeroAndOneAreEverywhere(t *testing.T) {
	for _, p := range primes {
		if !impl.NumValid(p, 0) || !impl.NumValid(p, 1) || impl.NumValid(p, p) {
			t.Fatal("prime", p)
		}
		for a := -300; a <= 300; a++ {
			if impl.NumValid(p, a) != (a >= 0 && a < p) {
				t.Fatal("prime", p, "number", a)
			}
		}
		for _, a := range noNumbers(p) {
			if impl.NumValid(p, a) {
				t.Fatal("prime", p, "number", a)
			}
		}
	}
	for _, p := range noPrimes {
		for _, a := range []int{math.MinInt, -1, 0, 1, 2, p - 1, p, math.MaxInt} {
			if impl.NumValid(p, a) {
				t.Fatal(p, "is no prime, but has the number", a)
			}
		}
	}
}

func TestP57SumsHaveNoOrder(t *testing.T) {
	for _, p := range primes {
		for a := range p {
			for b := range p {
				sum := impl.NumAdd(p, a, b)
				if sum < 0 || sum >= p || (a+b-sum)%p != 0 {
					t.Fatal("sum of", a, b, "by", p, "is", sum)
				}
				if sum != impl.NumAdd(p, b, a) {
					t.Fatal("exchanged", a, b, "by", p)
				}
				for c := range p {
					if impl.NumAdd(p, sum, c) != impl.NumAdd(p, a, impl.NumAdd(p, b, c)) {
						t.Fatal("taken together", a, b, c, "by", p)
					}
				}
			}
			times := 0
			for range p {
				times = impl.NumAdd(p, times, a)
			}
			if times != 0 {
				t.Fatal("so many times as the prime", p, "the number", a, "is", times)
			}
		}
	}
}

func TestP58ProductsGoIntoSums(t *testing.T) {
	for _, p := range primes {
		for a := range p {
			for b := range p {
				times := impl.NumTimes(p, a, b)
				if times < 0 || times >= p || (a*b-times)%p != 0 {
					t.Fatal("product of", a, b, "by", p, "is", times)
				}
				if (times == 0) != (a == 0 || b == 0) {
					t.Fatal("product 0 of", a, b, "by", p)
				}
				for c := range p {
					if impl.NumTimes(p, c, impl.NumAdd(p, a, b)) != impl.NumAdd(p, impl.NumTimes(p, c, a), impl.NumTimes(p, c, b)) {
						t.Fatal("of the sum of", a, b, "by", p, "with", c)
					}
				}
			}
		}
	}
}

func TestP59InversesTurnBack(t *testing.T) {
	for _, p := range primes {
		if impl.NumBack(p, 0) != -1 {
			t.Fatal("0 has no inverse by", p)
		}
		for a := 1; a < p; a++ {
			back := impl.NumBack(p, a)
			if back < 1 || back >= p || a*back%p != 1 || impl.NumTimes(p, a, back) != 1 {
				t.Fatal("inverse of", a, "by", p, "is", back)
			}
			if impl.NumBack(p, back) != a {
				t.Fatal("inverse of the inverse of", a, "by", p)
			}
		}
	}
}

func TestNumbersThatAreNotValid(t *testing.T) {
	defer mustPanicNot(t, "a number that is not valid")
	for _, p := range primes {
		for _, a := range noNumbers(p) {
			if impl.NumBack(p, a) != -1 {
				t.Fatal("NumBack", p, a)
			}
			for _, b := range append(noNumbers(p), 0, 1, p-1) {
				if impl.NumAdd(p, a, b) != -1 || impl.NumAdd(p, b, a) != -1 {
					t.Fatal("NumAdd", p, a, b)
				}
				if impl.NumTimes(p, a, b) != -1 || impl.NumTimes(p, b, a) != -1 {
					t.Fatal("NumTimes", p, a, b)
				}
			}
		}
	}
	for _, p := range noPrimes {
		for _, a := range []int{-1, 0, 1, 2, 3, p - 1, p} {
			if impl.NumAdd(p, a, 1) != -1 || impl.NumAdd(p, 1, a) != -1 || impl.NumTimes(p, a, 1) != -1 || impl.NumTimes(p, 0, a) != -1 || impl.NumBack(p, a) != -1 {
				t.Fatal("no prime", p, "number", a)
			}
		}
	}
}
