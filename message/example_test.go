package message_test

import (
	"fmt"

	"waybill/api"
	"waybill/hexa"
	"waybill/message"
	"waybill/u256"
)

// As README.md has it.
func Example() {
	sig, e := message.SignPersonal([]byte("hello"), u256.From(1))
	if e != api.OK {
		fmt.Println(e)
		return
	}
	who, _ := message.RecoverPersonal([]byte("hello"), sig)
	structs := []api.Struct{
		{Name: "Mail", Members: []api.Member{{Name: "to", Type: "Person[]"}, {Name: "contents", Type: "string"}}},
		{Name: "Person", Members: []api.Member{{Name: "name", Type: "string"}, {Name: "wallet", Type: "address"}}},
	}
	bob := api.Value{Items: []api.Value{{Data: []byte("Bob")}, {Num: u256.From(7)}}}
	values := []api.Value{{Items: []api.Value{bob}}, {Data: []byte("Hello, Bob!")}}
	domain := api.Domain{Has: 1 | 4, Name: "Ether Mail", Chain: u256.From(1)}
	digest, e := message.TypedDigest(domain, structs, "Mail", values)
	if e != api.OK {
		fmt.Println(e)
		return
	}
	told, _ := message.TypeText(structs, "Mail")
	kind, _ := message.TypeHash(structs, "Person")
	own, _ := message.StructHash(structs, "Person", bob.Items)
	place, _ := message.DomainHash(domain)
	_, short := message.StructHash(structs, "Mail", values[:1])
	_, none := message.TypeText(structs[:1], "Mail")
	fmt.Println(hexa.Checksum(who), told)
	fmt.Printf("%x %x %x %x\n", digest[:4], kind[:4], own[:4], place[:4])
	fmt.Println(short, none)
	// Output:
	// 0x7E5F4552091A69125d5DfCb7b8C2659029395Bdf Mail(Person[] to,string contents)Person(string name,address wallet)
	// 7c074e62 b9d8c78a 40277b30 adf7a172
	// waybill: error 231 waybill: error 230
}
