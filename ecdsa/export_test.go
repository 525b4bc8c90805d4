package ecdsa

// What the faces reach at arguments that nobody knows: a candidate that is not fit, a nonce whose point has an x of n or above, a nonce of RFC 6979 that will not do.
var (
	Chosen     = chosen
	Textbook   = textbook
	FirstSound = firstSound
)
