package btree

import (
	"buttery/api"
	"buttery/node"
)

// linkSize is how many bytes ahead of a long page's data say which page is the next one.
const linkSize = 4

// longPages is in how many long pages a value of so many bytes stands.
func longPages(size int) int {
	if size <= node.MaxInline {
		return 0
	}
	return (size + Data - 1) / Data
}

// longPage are the bytes of a long page.
func longPage(next int, data string) []byte {
	b := make([]byte, api.SectorSize)
	for i := range linkSize {
		b[i] = byte(next >> (8 * (linkSize - 1 - i)))
	}
	copy(b[linkSize:], data)
	return b
}

// link is the page that a long page says is the next one.
func link(b []byte) int {
	n := 0
	for _, x := range b[:linkSize] {
		n = n<<8 | int(x)
	}
	return n
}

// value is the value of a leaf's cell, and the long pages in which it stands.
func (w *walk) value(c node.Cell) (string, []int, api.Errno) {
	if c.Long == 0 {
		return c.Value, nil, api.OK
	}
	if c.Size <= node.MaxInline || c.Size > MaxValue {
		return "", nil, api.ErrForm
	}
	var pages []int
	var value []byte
	next := c.Long
	for range longPages(c.Size) {
		b, err := w.page(next)
		if err != api.OK {
			return "", nil, err
		}
		data := min(Data, c.Size-len(value))
		pages = append(pages, next)
		value = append(value, b[linkSize:linkSize+data]...)
		next = link(b)
	}
	if next != 0 {
		return "", nil, api.ErrForm
	}
	return string(value), pages, api.OK
}

// lay is a leaf's cell of a key and a value, which is laid into long pages if it is too long.
// The last one of them is written first, since each says which is the next one.
func (w *writer) lay(key, value string) node.Cell {
	if len(value) <= node.MaxInline {
		return node.Cell{Key: key, Value: value}
	}
	first := 0
	put := func(data string) {
		next := first
		first = w.take()
		w.write(first, longPage(next, data))
	}
	for i := longPages(len(value)) - 1; i >= 0; i-- {
		put(value[i*Data : min((i+1)*Data, len(value))])
	}
	return node.Cell{Key: key, Long: first, Size: len(value)}
}
