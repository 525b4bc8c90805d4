package message

import (
	"waybill/api"
	"waybill/u256"
)

// fields are those that a domain may have, by rising weights.
var fields = [...]api.Member{
	{Name: "name", Type: "string"},
	{Name: "version", Type: "string"},
	{Name: "chainId", Type: "uint256"},
	{Name: "verifyingContract", Type: "address"},
	{Name: "salt", Type: "bytes32"},
}

// DomainHash tells the digest of a domain: that of a struct with the fields that it has.
func DomainHash(d api.Domain) (api.Hash, api.Errno) {
	if d.Has < 0 || d.Has >= 1<<len(fields) {
		return api.Hash{}, api.ErrArg
	}
	whole := fieldValues(d)
	var values []api.Value
	s := api.Struct{Name: "EIP712Domain"}
	for i, field := range fields {
		if d.Has>>i&1 == 1 {
			s.Members = append(s.Members, field)
			values = append(values, whole[i])
		}
	}
	return StructHash([]api.Struct{s}, s.Name, values)
}

// fieldValues tells the values of all fields, also of those that the domain has not.
func fieldValues(d api.Domain) []api.Value {
	contract, _ := u256.Get(d.Contract[:]) // can't fail: an address is short
	return []api.Value{
		{Data: []byte(d.Name)},
		{Data: []byte(d.Version)},
		{Num: d.Chain},
		{Num: contract},
		{Data: d.Salt[:]},
	}
}
