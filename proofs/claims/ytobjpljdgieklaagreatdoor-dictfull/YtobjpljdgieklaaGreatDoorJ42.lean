import Derived.Test.YtobjpljdgieklaaGreatDoorJ10
import Derived.Test.YtobjpljdgieklaaGreatDoorJ40
import Derived.Test.YtobjpljdgieklaaGreatDoorLvStep
set_option maxRecDepth 100000
namespace Go.Proofs.YtobjpljdgieklaaGreatDoor
section
open Go.RowKit Go.Shelf Go.Lib Go.Sort Pm
set_option maxHeartbeats 2000000 in
theorem zU4(w:World)(v:Value)(l:List Pr)(s:ByteArray)(h:PRow w v l)(hl:l.length≤9223372036854775807):
 Calls Tryz.prog 44 #[v,.string s] w fun e w'=>e = .returned (.tuple #[.int .i64 ((Pm.find l s).getD 0),.bool (Pm.find l s).isSome])∧w'=w:=by
 obtain⟨ad,cap,rfl⟩:=h.form;have HR:Hid (PRow w (.slice ad l.length cap) l):=h;obtain⟨n,hn⟩:∃n,l.length=n:=⟨_,rfl⟩;have HN:Hid (l.length=n):=hn;obtain⟨F,hF⟩:∃F,Pm.find l s=F:=⟨_,rfl⟩;have HF:Hid (Pm.find l s=F):=hF;rw[hn]at HR hl;clear h;rw[hn,hF];clear hn hF;go_enter Tryz.func44,Tryz.ntmps44;go_wp2
 go_loopg [6] n (fun g s6 wr=>∃(k:Nat),s6 = .int .i64 ((k:Int)-1)∧k≤n∧k≤g∧wr=w∧Hid (Pm.find (l.take k) s=F))
 case atStart=>exact⟨n,rfl,Nat.le_refl _,Nat.le_refl _,rfl,by show _=_;rw[List.take_of_length_le (by have:=HN.out;omega)];exact HF.out⟩
 case round=>
  obtain⟨k,rfl,hk,hg,rfl,HK⟩:=hrel;cases k with
  |zero=>
   (have HE:Hid (F=none):=by show _=_;rw[←HK.out];rfl);go_wp2;go_ret2;rw[HE.out];exact⟨rfl,rfl⟩
  |succ k=>
   (have e1:((k+1:Nat):Int)-1=(k:Int):=by omega);obtain⟨x,hx⟩:∃x,l[k]?=some x:=⟨l[k]'(by have:=HN.out;omega),List.getElem?_eq_getElem _⟩;obtain⟨b,off,rfl,hb,hcell⟩:=HR.out.at (by omega);obtain⟨c0,c1⟩:=hcell k x hx;(have hstep:Pm.find (l.take (k+1)) s=if x.1=s then some x.2 else Pm.find (l.take k) s:=by rw[zD3 hx,find_snoc]);(have hk0:(0:Int)≤(k:Int):=by omega);(have hkn:(k:Int)<(n:Int):=by omega);(have ekn:(k:Int).toNat=k:=by omega);clear hx hcell;by_cases hxs:x.1=s
   · have hs:(x.1.toList==s.toList)=true:=by rw[zD0];exact decide_eq_true hxs
     (have HE:Hid (F=some x.2):=by show _=_;rw[←HK.out,hstep,if_pos hxs]);clear hxs hstep;go_wp2;go_ret2;rw[HE.out];exact⟨rfl,rfl⟩
   · have hs:(x.1.toList==s.toList)=false:=by rw[zD0];exact decide_eq_false hxs
     (have HE:Hid (Pm.find (l.take k) s=F):=by show _=_;rw[←HK.out,hstep,if_neg hxs]);clear hxs hstep;go_wp2;go_roundg k;(case measure=>omega);case rel=>exact⟨k,by first|rfl|go_num,by omega,Nat.le_refl _,rfl,HE⟩
end
section
open Go.RowKit Nums Ed Lv
theorem keep_row(w:World)(ys:List Nat)(h:ys.length=25):∃w',zJe Tryz.prog (.pointer (some ⟨w.heap.size,0,none⟩)) (rV ys) (w.alloc (.cells (rC zeros) 137)) = .ok () w'∧RAt w' w.heap.size ys∧Below w.heap.size w w'∧w.heap.size<w'.heap.size:=by
 have N5:RAt (w.alloc (.cells (rC zeros) 137)) w.heap.size zeros:=RAt.new _ _;obtain⟨P6,O6⟩:=N5.put (ys:=ys) (by rw[h,zBe]);exact⟨_,zCi N5 zBe h,P6,O6.below ((Below.refl _ w).alloc (Nat.le_refl _) _) (Nat.le_refl _),P6.lt⟩
theorem put_row{w:World}{b:Nat}{bs:List Nat}(ys:List Nat)(hb:RAt w b bs)(hl:bs.length=25)(h:ys.length=25):∃w',zJe Tryz.prog (.pointer (some ⟨b,0,none⟩)) (rV ys) w = .ok () w'∧RAt w' b ys∧One b w w':=by
 obtain⟨P6,O6⟩:=hb.put (ys:=ys) (by rw[h,hl]);exact⟨_,zCi hb hl h,P6,O6⟩
def one3:List Nat:=([1,1,1]:List Nat)++List.replicate 22 0
theorem zM8(a:Act)(dst:Option Tmp)(ty:TypeId)(pos:String)(af:Array Edge)(g:Option (Nat×Bool))(w:World):(execOp a.eval ⟨dst,.build 137 #[(0,.const (.int .u8 1)),(1,.const (.int .u8 1)),(2,.const (.int .u8 1))],ty,pos,af,g⟩).run Tryz.prog w = .ok (.value (rV one3)) w:=by
 have h:(Instr.build 137 #[(0,.int .u8 1),(1,.int .u8 1),(2,.int .u8 1)]).run Tryz.prog w = .ok (rV one3) w:=by kernel_rfl
 simp only[execOp,Sem.run_bind,Sem.run_pure,List.map_toArray,List.map_cons,List.map_nil,Act.eval,h,Result.andThen]
attribute [local go_sem ↓] zA7 zCf zA0 zA6 zM8
attribute [local go_sem] zEq
end
