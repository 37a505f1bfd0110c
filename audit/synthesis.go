package audit

import (
	"iter"

	"petrinet/api"
	"petrinet/synth"
)

// synthesis has the check of an elementary transition system and its net.
type synthesis struct {
	system api.System
	net    api.Net
}

// synth yields 0 if the system does not match the net.
func (s synthesis) synth() iter.Seq[int] {
	matches, e := synth.Matches(s.system, s.net)
	return when(e == api.OK && !matches)
}
