import Derived.Test.YtobjpljdgieklaaGreatDoorJ52
namespace Go.Proofs.YtobjpljdgieklaaGreatDoor
open Go.RowKit Go.Shelf Go.Lib Nums Fm Pk Pm Fz Ed Lv
set_option maxRecDepth 100000
namespace Di
def w3(i:Nat):ByteArray:=⟨#[UInt8.ofNat (97+i/256),UInt8.ofNat (97+i/16%16),UInt8.ofNat (97+i%16)]⟩
def full(k:Nat):List Pr:=(List.range k).map fun i=>(w3 i,1)
def zz:ByteArray:=⟨#[122,122]⟩
def aaa:ByteArray:=⟨#[97,97,97]⟩
theorem full_ok:zAf (full 4096)=0:=by decide +kernel
theorem full_zz:setE (full 4096) zz 1=142∧setE (full 4096) aaa 2=0:=by decide +kernel
theorem full_aaa:remE (setL (full 4096) aaa 2) aaa=0∧remH (setL (full 4096) aaa 2) aaa=2:=by decide +kernel
theorem full_end:setE (remL (setL (full 4096) aaa 2) aaa) zz 1=0∧(setL (remL (setL (full 4096) aaa 2) aaa) zz 1).length=4096:=by decide +kernel
