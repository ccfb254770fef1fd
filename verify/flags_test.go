package verify_test

import "flag"

// How long, and from where on, programs are made at random.
var (
	seed   = flag.Int64("seed", 1, "where random programs begin")
	rounds = flag.Int("rounds", 4000, "how many random programs are tried")
)
