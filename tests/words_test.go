package tests

// wordsOf returns all strings of 1 to length of the given bytes.
func wordsOf(bytes string, length int) []string {
	var all []string
	words := []string{""}
	for range length {
		var longer []string
		for _, w := range words {
			for i := range len(bytes) {
				longer = append(longer, w+bytes[i:i+1])
			}
		}
		all = append(all, longer...)
		words = longer
	}
	return all
}

// changedTexts returns what arises from a text by any byte before, behind or in
// place of one of its bytes, and the texts that lack or repeat a part of it.
func changedTexts(text string) []string {
	var all []string
	for i := range len(text) + 1 {
		for b := range 256 {
			changed := text[:i] + string([]byte{byte(b)})
			all = append(all, changed+text[i:])
			if i < len(text) {
				all = append(all, changed+text[i+1:])
			}
		}
		for j := i; j <= len(text); j++ {
			all = append(all, text[:i]+text[j:], text[:j]+text[i:])
		}
	}
	return all
}
