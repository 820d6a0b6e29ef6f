package disk

import (
	"errors"

	"swingbridge/api"
	"swingbridge/refusal"
)

// ask refuses no disk, also one that New did not make, and numbers below 0.
func (d *Disk) ask(numbers ...int) error {
	if d == nil || d.files == nil {
		return refusal.Of("no disk", api.ErrNil)
	}
	for _, n := range numbers {
		if n < 0 {
			return refusal.Of("a number below 0", api.ErrArg)
		}
	}
	return nil
}

// isNone asks whether there is no disk.
func isNone(d *Disk) bool { return errors.Is(d.ask(), api.ErrNil) }

// askFile refuses what ask refuses, and a file that is not there.
func (d *Disk) askFile(file int, numbers ...int) error {
	err := d.ask(numbers...)
	if err == nil && (file < 0 || file >= api.MaxFiles) {
		err = refusal.Of("a file that is not there", api.ErrRange)
	}
	return err
}

func (d *Disk) mayPut(file, many int) error {
	err := d.askFile(file)
	if err == nil && many > d.left() {
		err = refusal.Of("no room", api.ErrFull)
	}
	return err
}

func (d *Disk) mayCut(file, many int) error {
	err := d.askFile(file, many)
	if err == nil && many > len(d.files[file]) {
		err = refusal.Of("a cut beyond the end", api.ErrRange)
	}
	return err
}

func (d *Disk) left() int { return d.room - d.all() }
