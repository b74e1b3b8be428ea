package disk

import "sumpter/api"

// trap counts the calls ahead of the one at which something goes wrong.
type trap struct {
	set   bool
	ahead int
}

// newTrap makes a trap for the call behind so many of this disk.
func (d *Disk) newTrap(ahead int) (trap, api.Errno) {
	if err := d.ready(); err != api.OK {
		return trap{}, err
	}
	if ahead < 0 {
		return trap{}, api.ErrArg
	}
	return trap{set: true, ahead: ahead}, api.OK
}

// springs counts a call, and tells whether it is the one; there is no second one.
func (t *trap) springs() bool {
	if !t.set {
		return false
	}
	if t.ahead > 0 {
		t.ahead--
		return false
	}
	*t = trap{}
	return true
}
