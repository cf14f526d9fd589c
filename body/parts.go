package body

import (
	"towncrier/api"
	"towncrier/fault"
	"towncrier/field"
	"towncrier/prop"
	"towncrier/reason"
)

// PutHead writes the number and the properties with which a packet that has parts begins.
func PutHead(w *field.Writer, p api.Packet) error {
	props, err := prop.Encode(p.Kind, p.Props)
	if err != nil {
		return err
	}
	w.U16(p.Id)
	w.Raw(props)
	return nil
}

// TakeHead reads the number and the properties with which a packet that has parts begins.
func TakeHead(r *field.Reader, kind int) (api.Packet, error) {
	id, err := Id(r)
	if err != nil {
		return api.Packet{}, err
	}
	props, err := prop.Read(r, kind)
	if err != nil {
		return api.Packet{}, err
	}
	return api.Packet{Kind: kind, Id: id, Props: props}, nil
}

// Parts reads parts, one by one, until no bytes are left; there is at least one.
func Parts[T any](r *field.Reader, read func(*field.Reader) (T, error)) ([]T, error) {
	var l []T
	for r.Left() > 0 {
		if len(l) == api.MaxSubs {
			return nil, fault.New(api.TooLarge, r.At(), api.ErrTooLarge)
		}
		part, err := read(r)
		if err != nil {
			return nil, err
		}
		l = append(l, part)
	}
	if len(l) == 0 {
		return nil, fault.New(api.Protocol, r.At(), api.ErrProtocol)
	}
	return l, nil
}

// PutCodes writes codes, a byte for each.
func PutCodes(w *field.Writer, codes []int) {
	for _, code := range codes {
		w.U8(code)
	}
}

// TakeCodes reads codes that a kind may have, until no bytes are left; there is at least one.
func TakeCodes(r *field.Reader, kind int) ([]int, error) {
	return Parts(r, func(r *field.Reader) (int, error) {
		at, code := r.At(), r.U8()
		if !reason.Allowed(kind, code) {
			return 0, fault.New(api.Malformed, at, api.ErrMalformed)
		}
		return code, nil
	})
}
