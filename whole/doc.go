// Package whole has nothing but the tests of the promises of the whole, W1 to W6, and the document's ten examples of it.
package whole
