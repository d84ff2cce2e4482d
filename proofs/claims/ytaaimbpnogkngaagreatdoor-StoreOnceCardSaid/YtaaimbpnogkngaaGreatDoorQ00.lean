/- Short words for types. Conditions: none. -/
import Derived.Test.YtaaimbpnogkngaaGreatDoorProg
namespace Go.Proofs.YtaaimbpnogkngaaGreatDoor
abbrev Yu := List UInt8
abbrev Ye := ByteArray.empty
abbrev Yb := ByteArray
abbrev Yw := World
abbrev Yv := Value
abbrev Yo := Option
abbrev Y8 := UInt8
end Go.Proofs.YtaaimbpnogkngaaGreatDoor
