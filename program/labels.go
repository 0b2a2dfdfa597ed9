package program

import (
	"alerts/api"
	"alerts/config"
)

// AreLabels tells whether a list can be the labels of an alert.
func AreLabels(l []api.Label) bool {
	if len(l) > api.MaxLabels {
		return false
	}
	for i, label := range l {
		if len(label.Value) > api.MaxValue || !config.IsName(label.Name) || isNamed(l[:i], label.Name) {
			return false
		}
	}
	return true
}

func isNamed(l []api.Label, name string) bool {
	for _, label := range l {
		if label.Name == name {
			return true
		}
	}
	return false
}

// valueOf answers the empty text if there is no such label.
func valueOf(l []api.Label, name string) string {
	for _, label := range l {
		if label.Name == name {
			return label.Value
		}
	}
	return ""
}
