package samples

import "strings"

// EachText calls use with every text of up to most words, of which some may repeat, with a space between each two.
func EachText(words []string, most int, use func(text string)) {
	count := 1
	for length := range most + 1 {
		for n := range count {
			var chosen []string
			for range length {
				chosen = append(chosen, words[n%len(words)])
				n /= len(words)
			}
			use(strings.Join(chosen, " "))
		}
		count *= len(words)
	}
}
