// Package plain tells which numbers and texts have a meaning, and copies and compares the shared types.
package plain

import (
	"cmp"

	"escrow/api"
)

// Within tells whether n is from lo to hi.
func Within(n, lo, hi int) bool { return lo <= n && n <= hi }

// IsDevice tells whether n is a device.
func IsDevice(n int) bool { return Within(n, 0, api.MaxDevices-1) }

// IsColl tells whether n is a collection.
func IsColl(n int) bool { return Within(n, 0, api.MaxColls-1) }

// IsVersion tells whether n is a version.
func IsVersion(n int) bool { return Within(n, 1, api.MaxVersion) }

// IsText tells whether s may be a text of an operation.
func IsText(s string) bool {
	if len(s) > api.MaxText {
		return false
	}
	for i := range len(s) {
		if s[i] < ' ' || s[i] == 127 {
			return false
		}
	}
	return true
}

// Subscribed tells whether a collection is among those that are true.
func Subscribed(subs []bool, coll int) bool {
	return IsColl(coll) && coll < len(subs) && subs[coll]
}

// DotOrder compares dots by Device, Epoch, Seq.
func DotOrder(a, b api.Dot) int {
	return cmp.Or(cmp.Compare(a.Device, b.Device), cmp.Compare(a.Epoch, b.Epoch), cmp.Compare(a.Seq, b.Seq))
}
