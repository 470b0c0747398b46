// Package rules has nothing to call: its tests hold the layers to what LANGUAGE.md says of variables at package level (rules 3a and 3b).
package rules
