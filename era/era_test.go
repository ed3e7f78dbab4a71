package era_test

import (
	"testing"

	"dateline/api"
	"dateline/era"
)

func TestLocal(t *testing.T) {
	for _, c := range []struct {
		format string
		saved  api.Time
		want   string
	}{
		{"X", api.Time{Save: 60, Letter: "S"}, "X"},
		{"%s", api.Time{}, ""},
		{"C%sT", api.Time{}, "CT"},
		{"C%sT", api.Time{Letter: "DD"}, "CDDT"},
		{"a/b", api.Time{Letter: "S"}, "a"},
		{"a/b", api.Time{Save: 60, Letter: "S"}, "b"},
	} {
		want := api.Local{Shift: c.saved.Save - 3600, Save: c.saved.Save, Name: c.want}
		if got := era.Local(api.Era{Shift: -3600, Format: c.format}, c.saved); got != want {
			t.Errorf("Local(%s, %v) = %v; want %v", c.format, c.saved, got, want)
		}
	}
}
