package config

import (
	"strconv"

	"alerts/api"
)

// Print writes a configuration in its one form.
func Print(c Config) string {
	text := "receivers"
	for _, name := range c.Receivers {
		text += " " + name
	}
	text += "\n"
	for _, r := range c.Routes {
		text += printRoute(r) + "\n"
	}
	return text
}

func printRoute(r Route) string {
	text := ""
	for i := 0; i < r.Depth; i++ {
		text += " "
	}
	text += "route " + r.Receiver
	if r.TellsBy {
		text += " by " + printLabels(r.By)
	}
	text += printTime(" wait ", r.Wait)
	text += printTime(" every ", r.Every)
	text += printTime(" repeat ", r.Repeat)
	for _, m := range r.If {
		text += " if " + printMatcher(m)
	}
	if r.Continue {
		text += " continue"
	}
	return text
}

func printLabels(names []string) string {
	if len(names) == 0 {
		return "-"
	}
	text := ""
	for i, name := range names {
		if i > 0 {
			text += ","
		}
		text += name
	}
	return text
}

func printTime(word string, time int) string {
	if time == NotTold {
		return ""
	}
	return word + strconv.Itoa(time)
}

func printMatcher(m Matcher) string {
	sign := printKind(m.Kind)
	return m.Name + sign + printValue(m.Value)
}

func printKind(kind int) string {
	switch kind {
	case api.IsNot:
		return "!="
	case api.Like:
		return "=~"
	case api.Unlike:
		return "!~"
	}
	return "="
}

func printValue(value string) string {
	text := []byte{'"'}
	for i := 0; i < len(value); i++ {
		c := value[i]
		if !isPlain(c) {
			text = append(text, '\\', 'x', hexDigit(c/16), hexDigit(c%16))
			continue
		}
		if c == '"' || c == '\\' {
			text = append(text, '\\')
		}
		text = append(text, c)
	}
	text = append(text, '"')
	return string(text)
}

func hexDigit(n byte) byte {
	if n < 10 {
		return '0' + n
	}
	return 'a' + n - 10
}
