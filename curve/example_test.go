package curve_test

import (
	"fmt"

	"waybill/api"
	"waybill/curve"
	"waybill/u256"
)

// As README.md has it.
func Example() {
	key := u256.From(3)
	public := curve.MulG(key)
	short, e := curve.Compress(public)
	if e != api.OK {
		fmt.Println(e)
		return
	}
	same, _ := curve.Parse(short)
	sum, _ := curve.Sum(curve.G(), curve.G(), curve.G())
	_, none := curve.Lift(u256.From(5), true)
	fmt.Printf("%x %v %v %v", short[:5], same == public, sum == public, none)
	// Output: 02f9308a01 true true waybill: error 50
}
