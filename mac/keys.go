package mac

import "intaglio/api"

// Extract: a key of what is hardly one.
func Extract(salt []byte, parts ...[]byte) api.Key { return Sum(salt, parts...) }

// Expand: so many bytes of a key, for what is told.
func Expand(key api.Key, n int, info ...[]byte) ([]byte, api.Errno) {
	if n < 0 || n > MaxKeys {
		return nil, api.ErrRange
	}
	var made []byte
	var last []byte // the first sum has none before it
	for number := 1; len(made) < n; number++ {
		m := New(key[:])
		m.Write(last)
		m.Write(info...)
		m.Write([]byte{byte(number)})
		sum := m.Sum()
		last = sum[:]
		made = append(made, last...)
	}
	return made[:n:n], api.OK // the spare room would give away bytes that nobody asked for
}

// Keys: so many keys of what is hardly one, for what is told.
func Keys(salt []byte, secret []byte, info string, count int) ([]api.Key, api.Errno) {
	if count < 0 || count > maxCount { // ahead of the product below, which could go round
		return nil, api.ErrRange
	}
	made, _ := Expand(Extract(salt, secret), count*sumSize, []byte(info)) // so few are never refused
	keys := make([]api.Key, count)
	for i := range keys {
		keys[i] = api.Key(made[i*sumSize : (i+1)*sumSize])
	}
	return keys, api.OK
}
