package impl

const (
	MaxLines   = 60
	MaxLineLen = 200
)

func FormatWorld(w World) string {
	return ""
}

func FormatTrail(l []Entry) string {
	return ""
}

func ConsoleLine(w World, line string) (World, string) {
	return World{}, ""
}

func RunConsole(text string) ([]string, bool) {
	return []string{}, false
}
