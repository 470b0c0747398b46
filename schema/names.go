package schema

import "sync"

const mostSigns = 12 // of a name

// words are those of the language (chapter 18): none of them is a name.
var words = [...]string{
	"and", "begin", "bool", "by", "commit", "count", "create", "delete", "desc", "drop",
	"false", "from", "group", "insert", "int", "into", "is", "join", "key", "limit",
	"max", "min", "not", "null", "on", "only", "or", "order", "primary", "rollback",
	"savepoint", "select", "set", "sum", "table", "text", "to", "true", "update", "values",
	"where",
}

// names tells which names may still be given within one schema: the words of the language are taken from the start, a column's name once it has it.
type names struct {
	once  sync.Once // done when the words are laid into taken, by the first name that needs to be held against them
	taken map[string]struct{}
}

// free tells whether name is a name, and nobody's yet.
func (n *names) free(name string) bool {
	if !isSpelt(name) {
		return false
	}
	n.once.Do(n.takeWords)
	_, is := n.taken[name]
	return !is
}

// take makes name somebody's; that it is free was asked ahead of it.
func (n *names) take(name string) {
	n.taken[name] = struct{}{}
}

func (n *names) takeWords() {
	n.taken = make(map[string]struct{}, len(words))
	for _, w := range words {
		n.take(w)
	}
}

// isSpelt tells whether name's signs are a name's.
func isSpelt(name string) bool {
	if len(name) < 1 || len(name) > mostSigns || !isLetter(name[0]) {
		return false
	}
	for i := range len(name) {
		if c := name[i]; !isLetter(c) && !isDigit(c) && c != '_' {
			return false
		}
	}
	return true
}

func isLetter(c byte) bool {
	return 'a' <= c && c <= 'z'
}

func isDigit(c byte) bool {
	return '0' <= c && c <= '9'
}
