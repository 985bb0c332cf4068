package tests

// wordsOf returns all strings of 1 to length of the given bytes.
func wordsOf(bytes string, length int) []string {
	var all []string
	words := []string{""}
	for range length {
		var longer []string
		for _, w := range words {
			for i := range len(bytes) {
				longer = append(longer, w+bytes[i:i+1])
			}
		}
		all = append(all, longer...)
		words = longer
	}
	return all
}
