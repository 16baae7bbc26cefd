import Derived.Test.YtobjpljdgieklaaGreatDoorJ12
import Derived.Test.YtobjpljdgieklaaGreatDoorBtDown
import Derived.Test.YtobjpljdgieklaaGreatDoorCards
import Derived.Test.YtobjpljdgieklaaGreatDoorTie
import Derived.Test.YtobjpljdgieklaaGreatDoorJ2
import Derived.WalkKit
import Derived.ProofKit
import Derived.OpenShut
import Derived.Deep.DeepHandedRow
import Derived.Lib.LaidTab
import Derived.Test.YtobjpljdgieklaaGreatDoorJ20
import Derived.Deep.Strs
import Derived.Lib.SmallJoins
set_option maxRecDepth 100000
namespace Go.Proofs.YtobjpljdgieklaaGreatDoor
section
open Pm
namespace Mg
theorem zMc{α:Type}{l:List α}{k:Nat}{x:α}(h:l[k]?=some x):l.take (k+1)=l.take k++[x]:=by rw[List.take_add_one,h];rfl
section
variable {κ:Type} {less:κ→κ→Bool}
def ins(less:κ→κ→Bool)(m:κ×(Int×Int)):List (κ×(Int×Int))→List (κ×(Int×Int))
 |[]=>[m]
 |x::r=>if less m.1 x.1 then m::x::r else x::ins less m r
theorem zVz{m x:κ×(Int×Int)}:∀{l:List (κ×(Int×Int))},x∈ins less m l→x=m∨x∈l
 |[],h=>by simpa[ins]using h
 |y::r,h=>by
  unfold ins at h
  split at h
  · simpa using h
  · rcases List.mem_cons.1 h with e|e
    · exact .inr (by simp[e])
    · rcases zVz e with e|e
      · exact .inl e
      · exact .inr (by simp[e])
theorem ins_len(m:κ×(Int×Int)):∀l:List (κ×(Int×Int)),(ins less m l).length=l.length+1
 |[]=>rfl
 |y::r=>by
  unfold ins
  split
  · rfl
  · rw[List.length_cons,ins_len m r,List.length_cons]
theorem zVv(o:STO less)(m:κ×(Int×Int)):∀{l:List (κ×(Int×Int))},Mq.Up less l→Mq.Up less (ins less m l)
 |[],_=>List.pairwise_singleton _ _
 |y::r,h=>by
  obtain⟨h1,h2⟩:=List.pairwise_cons.1 h;unfold ins
  split
  · rename_i hm
    refine List.pairwise_cons.2 ⟨fun z hz=>?_,h⟩;rcases List.mem_cons.1 hz with e|e
    · rw[e];exact o.asymm hm
    · exact o.ntr (o.asymm hm) (h1 z e)
  · rename_i hm
    refine List.pairwise_cons.2 ⟨fun z hz=>?_,zVv o m h2⟩;rcases zVz hz with e|e
    · rw[e];exact Bool.eq_false_iff.2 hm
    · exact h1 z e
def zFq(less:κ→κ→Bool)(l:List (κ×(Int×Int))):List (κ×(Int×Int)):=l.foldl (fun a m=>ins less m a) []
theorem zV0(o:STO less)(l:List (κ×(Int×Int))):Mq.Up less (zFq less l):=by
 suffices H:∀(l a:List (κ×(Int×Int))),Mq.Up less a→Mq.Up less (l.foldl (fun a m=>ins less m a) a)from H l [] List.Pairwise.nil
 intro l
 induction l with
 |nil=>exact fun a h=>h
 |cons x r ih=>exact fun a h=>ih _ (zVv o x h)
def insP(less:κ→κ→Bool)(m:κ×(Int×Int))(done:Bool)(r:List (κ×(Int×Int))):List (κ×(Int×Int)):=if done then r else ins less m r
end
section
variable {κ:Type} [DecidableEq κ] {less:κ→κ→Bool}
theorem zMg(o:STO less):∀{a b:List (κ×(Int×Int))},Mq.Up less a→Mq.Up less b→(∀k,Mq.of k a=Mq.of k b)→a=b
 |[],b,_,_,h=>by
  have:=Mq.of_len b [] h;exact(List.eq_nil_of_length_eq_zero (by simpa using this.symm)).symm
 |x::r,[],_,_,h=>by
  have:=Mq.of_len [] (x::r) h;simp at this
 |x::r,y::s,ha,hb,h=>by
  have hx:x∈y::s:=Mq.mem_of_same (a:=y::s) (b:=x::r) h (by simp);have hy:y∈x::r:=Mq.mem_of_same (a:=x::r) (b:=y::s) (fun k=>(h k).symm) (by simp);have h1:less y.1 x.1=false:=by
   rcases List.mem_cons.1 hy with e|e
   · rw[e];exact o.irr _
   · exact(List.pairwise_cons.1 ha).1 y e
  have h2:less x.1 y.1=false:=by
   rcases List.mem_cons.1 hx with e|e
   · rw[e];exact o.irr _
   · exact(List.pairwise_cons.1 hb).1 x e
  have he:x.1=y.1:=o.tot _ _ h2 h1;have h3:=h x.1;rw[Mq.of_cons_same,he,Mq.of_cons_same,List.cons.injEq]at h3;obtain⟨rfl,_⟩:=h3;rw[zMg o (List.pairwise_cons.1 ha).2 (List.pairwise_cons.1 hb).2 fun k=>by
   have:=h k;by_cases e:x.1=k
   · subst e
     rw[Mq.of_cons_same,Mq.of_cons_same,List.cons.injEq]at this;exact this.2
   · rwa [Mq.of_cons_ne e,Mq.of_cons_ne e]at this]
theorem zJh(o:STO less){l a b:List (κ×(Int×Int))}(h1:Mq.Stably less l a)(h2:Mq.Stably less l b):a=b:=
 zMg o h1.1 h2.1 fun k=>(h1.2 k).trans (h2.2 k).symm
theorem zVx(o:STO less)(m:κ×(Int×Int))(k:κ):∀{l:List (κ×(Int×Int))},Mq.Up less l→Mq.of k (ins less m l)=Mq.of k (l++[m])
 |[],_=>rfl
 |y::r,h=>by
  obtain⟨h1,h2⟩:=List.pairwise_cons.1 h;unfold ins
  split
  · rename_i hm
    rw[show m::y::r=[m]++(y::r)from rfl];refine Mq.of_comm o (fun u hu v hv=>?_) k;rw[List.mem_singleton.1 hu];rcases List.mem_cons.1 hv with e|e
    · rw[e];exact hm
    · cases hc:less m.1 v.1 with
      |true=>rfl
      |false=>
       have:=o.ntr (h1 v e) hc;rw[this]at hm;cases hm
  · by_cases e:y.1=k
    · subst e
      rw[Mq.of_cons_same,List.cons_append,Mq.of_cons_same,zVx o m _ h2]
    · rw[Mq.of_cons_ne e,List.cons_append,Mq.of_cons_ne e,zVx o m _ h2]
theorem zM1(o:STO less)(l:List (κ×(Int×Int))):Mq.Stably less l (zFq less l):=by
 refine⟨zV0 o l,fun k=>?_⟩
 suffices H:∀(l a:List (κ×(Int×Int))),Mq.Up less a→Mq.of k (l.foldl (fun a m=>ins less m a) a)=Mq.of k (a++l)by simpa[zFq]using H l [] List.Pairwise.nil
 intro l
 induction l with
 |nil=>intro a _;simp
 |cons x r ih=>
  intro a h;rw[List.foldl_cons,ih _ (zVv o x h),Mq.of_append,zVx o x k h,←Mq.of_append,List.append_assoc];rfl
end
end Mg
end
section
open Go.RowKit Go.Lib Nums Pm
namespace Bt
def Nxt(w:World)(v v':Value):Prop:=v'.ownBlock=v.ownBlock∨∃g,v'.ownBlock=some g∧w.heap.size≤g
theorem KF.nxt{w:World}{p:Nat}{v v':Value}(h:Nxt w v v'){k:Nat}(hk:k<w.heap.size)(f:KF p v' k):KF p v k:=by
 rcases f with f|f
 · exact .inl f
 · rcases h with e|⟨g,e,hg⟩
   · exact .inr (e▸f)
   · rw[e]at f;cases f;omega
set_option maxHeartbeats 1000000 in
theorem Push_any(B:Nat)(w:World)(p:Nat)(room:Int)(v:Value)(h:List Mt)(m:Mt)(K:KAt B w p room v h)(H:Hp h.length h)(hl:h.length<549755813888):
 Calls Tryz.prog 128 #[zGd p,.iface 74 (valM m)] w fun e w'=>e = .returned (.tuple #[])∧∃v' h',KAt B w' p room v' h'∧Upd (KF p v) w w'∧Nxt w v v'∧h'.Perm (h++[m])∧Hp h'.length h':=by
 have HP:Hid (Calls Tryz.prog 223 #[.pointer (some ⟨p,1,none⟩),.iface 74 (valM m)] w fun e w'=>e = .returned (.tuple #[])∧∃v',KAt B w' p room v' (h++[m])∧Upd (KF p v) w w'∧(v'.ownBlock=v.ownBlock∨∃g,v'.ownBlock=some g∧w.heap.size≤g)):=zXx B w p room v h m K (by omega);have HJ:Hid (UpJ (h++[m]).length (h++[m]) h.length):=by
  have:=UpJ.start (x:=m) H;have e:(h++[m]).length=h.length+1:=by simp
  show UpJ _ _ _;rw[e];exact this
 have hmp:=zU5 w p;obtain⟨n,hn⟩:∃n,h.length=n:=⟨_,rfl⟩;have HN:Hid (h.length=n):=hn;rw[hn]at hl HJ;clear K H hn;generalize valM m=vm at *;unfold zGd;go_enter Tryz.func128,Tryz.ntmps128;go_upto_region 1 with(go_at_call 223;refine HP.out.mono ?_;rintro e w1 ⟨rfl,v1,hK1,hu1,hx1⟩)
 obtain⟨ad,cap,hv1⟩:=hK1.form;obtain⟨n1,hn1⟩:∃n1,(h++[m]).length=n1:=⟨_,rfl⟩;rw[hn1]at hv1 HJ;subst hv1;have hn2:n1=n+1:=by have:=HN.out;simp at hn1;omega
 have HK1:Hid (KAt B w1 p room (.slice ad n1 cap) (h++[m])):=hK1;have HU1:Hid (Upd (KF p v) w w1):=hu1;have HX1:Hid (Nxt w v (.slice ad n1 cap)):=hx1;have hml:=zQn w1 p ad n1 cap hK1.c1;have hsub:IntKind.i64.wrap ((n1:Int)-1)=(n:Int):=by rw[IntKind.wrap_i64];omega
 have hsub2:(n1:Int)-1=(n:Int):=by omega
 have HUP:Hid (Calls Tryz.prog 162 #[.iface 199 (.pointer (some ⟨p,1,none⟩)),.int .i64 n] w1 fun e w'=>e = .returned (.tuple #[])∧∃h',KAt B w' p room (.slice ad n1 cap) h'∧Upd (KF p (.slice ad n1 cap)) w1 w'∧h'.Perm (h++[m])∧Hp h'.length h'):=up_any B w1 p room _ (h++[m]) n hK1 (by rw[hn1];exact HJ.out) (by rw[hn1];omega);clear hK1 hu1 hx1 hmp HP HJ hn1 hn2
 go_wp2_with (first
  |(go_at_call 160;refine(zLx w1 ad n1 cap).mono ?_;rintro e w2 ⟨rfl,rfl⟩)
  |(go_at_call 162;refine HUP.out.mono ?_;rintro e w3 ⟨rfl,h3,hK3,hu3,hp3,hh3⟩))
 go_returns;exact⟨rfl,_,h3,hK3,HU1.out.trans hu3 (fun k hk f=>KF.nxt HX1.out hk f),HX1.out,hp3,hh3⟩
set_option maxHeartbeats 1000000 in
theorem Pop_any(B:Nat)(w:World)(p:Nat)(room:Int)(v:Value)(h:List Mt)(n:Nat)(K:KAt B w p room v h)(H:Hp h.length h)(hn:h.length=n+1)(hl:h.length<549755813888):
 Calls Tryz.prog 161 #[zGd p] w fun e w'=>e = .returned (.iface 74 (valM (el h 0)))∧∃v' h',KAt B w' p room v' h'∧Upd (KF p v) w w'∧v'.ownBlock=v.ownBlock∧(el h 0::h').Perm h∧Hp h'.length h'∧h'.length=n:=by
 obtain⟨ad,cap,hv⟩:=K.form;obtain⟨n1,hn1⟩:∃n1,h.length=n1:=⟨_,rfl⟩;rw[hn1]at hv hl;subst hv;have HN1:Hid (h.length=n1):=hn1;have HN:Hid (h.length=n+1):=hn;have hn2:n1=n+1:=by omega
 have HK:Hid (KAt B w p room (.slice ad n1 cap) h):=K;have HH:Hid (Hp (n+1) h):=by show Hp _ _;rw[←hn];exact H
 have hml:=zQn w p ad n1 cap K.c1;have hms:=zEb w p ad n1 cap K.c1;have hsub:IntKind.i64.wrap ((n1:Int)-1)=(n:Int):=by rw[IntKind.wrap_i64];omega
 have hsub2:(n1:Int)-1=(n:Int):=by omega
 have HSW:Hid (Calls Tryz.prog 221 #[.slice ad n1 cap,.int .i64 0,.int .i64 n] w fun e w'=>e = .returned (.tuple #[])∧GOwn 74 3 B w' (.slice ad n1 cap) ((swp h 0 n).map cellsM)∧Upd (fun j=>(Value.slice ad n1 cap).ownBlock=some j) w w'):=zF3 B w _ h K.row 0 n (by omega) (by omega) (by omega);clear K H hn hn1 hn2;unfold zGd;go_enter Tryz.func161,Tryz.ntmps161
 go_upto_region 3 with(first
  |(go_at_call 160;refine(zLx w ad n1 cap).mono ?_;rintro e w2 ⟨rfl,hw2⟩;replace hw2:=hw2.symm;subst hw2)
  |(go_at_call 221;refine HSW.out.mono ?_;rintro e w1 ⟨rfl,hg1,hu1⟩))
 have HK1:Hid (KAt B w1 p room (.slice ad n1 cap) (swp h 0 n)):=HK.out.swapped hg1 hu1;have HU1:Hid (Upd (KF p (.slice ad n1 cap)) w w1):=hu1.mono (fun _ e => .inr e);have HDN:Hid (Calls Tryz.prog 179 #[.iface 199 (.pointer (some ⟨p,1,none⟩)),.int .i64 0,.int .i64 n] w1 fun e w'=>(∃b,e = .returned (.bool b))∧∃h',KAt B w' p room (.slice ad n1 cap) h'∧Upd (KF p (.slice ad n1 cap)) w1 w'∧h'.Perm (swp h 0 n)∧(∀k,n≤k→el h' k=el (swp h 0 n) k)∧Hp n h'):=down_any B w1 p room _ (swp h 0 n) n HK1.out (DnJ.start HN.out HH.out) (by rw[zF9,HN1.out];omega);clear hg1 hu1 hml hms HSW;go_upto_region 4 with(go_at_call 179;refine HDN.out.mono ?_;rintro e w2 ⟨⟨bb,rfl⟩,h2,hK2,hu2,hp2,hk2,hh2⟩)
 have hl2:h2.length=n+1:=by have:=hp2.length_eq;rw[zF9]at this;have:=HN.out;omega
 have hpp:=popped HN.out hp2 (hk2 n (Nat.le_refl _));have HPO:Hid (Calls Tryz.prog 222 #[.pointer (some ⟨p,1,none⟩)] w2 fun e w'=>e = .returned (.iface 74 (valM (el h 0)))∧∃v',KAt B w' p room v' (h2.take n)∧Upd (KF p (.slice ad n1 cap)) w2 w'∧v'.ownBlock=(Value.slice ad n1 cap).ownBlock):=by
  have:=Ppop_any B w2 p room _ h2 n hK2 hl2 (by have:=HN1.out;have:=HN.out;omega);rw[hpp.2]at this;exact this
 have HE:Hid ((el h 0::h2.take n).Perm h∧Hp (h2.take n).length (h2.take n)∧(h2.take n).length=n):=by
  have e:(h2.take n).length=n:=by rw[List.length_take];omega
  exact⟨hpp.1,by rw[e];exact hh2.take,e⟩
 have HU2:Hid (Upd (KF p (.slice ad n1 cap)) w w2):=HU1.out.trans hu2 (fun _ _ f=>f);have hmp:=meth_pop w2 p;clear hK2 hu2 hp2 hk2 hh2 hl2 hpp HDN HU1 HK1;go_wp2_with (go_at_call 222;refine HPO.out.mono ?_;rintro e w3 ⟨rfl,v3,hK3,hu3,hx3⟩);go_ret;exact⟨rfl,v3,h2.take n,hK3,HU2.out.trans hu3 (fun _ _ f=>f),hx3,HE.out⟩
theorem zLz(B:Nat)(w:World)(p:Nat)(room:Int)(v:Value)(h:List Mt)(K:KAt B w p room v h):Calls Tryz.prog 124 #[.pointer (some ⟨p,0,none⟩)] w fun e w'=>e = .returned (.int .i64 h.length)∧w'=w:=by
 obtain⟨ad,cap,hv⟩:=K.form;subst hv;have c1:=K.c1;generalize h.length=n at *;clear K;go_enter Tryz.func124,Tryz.ntmps124;go_wp2_with (go_at_call 160;refine(zLx w ad n cap).mono ?_;rintro e w2 ⟨rfl,rfl⟩);go_ret;exact⟨rfl,rfl⟩
end Bt
end
section
open Go.ChangeShapes Go.WideShapes Go.ChangeAt Go.RowKit
theorem own:ownKnob Tryz.prog.godebug=none:=by kernel_rfl
theorem zM3 : Tryz.prog.globalNamed "abecedary/letters.least" = some 1 := by kernel_rfl
theorem zWd : Tryz.prog.globalNamed "abecedary/letters.lead" = some 0 := by kernel_rfl
theorem zSj:(Tryz.prog.globals[1]?).map (·.type)=some 204:=by kernel_rfl
theorem zWc:(Tryz.prog.globals[0]?).map (·.type)=some 203:=by kernel_rfl
theorem zSz:Tryz.prog.cellsOf 204=5:=by kernel_rfl
theorem zW8:Tryz.prog.cellsOf 203=5:=by kernel_rfl
theorem zSx:Tryz.prog.cellsOf 21=1:=by kernel_rfl
theorem zXa:Tryz.prog.cellsOf 5=1:=by kernel_rfl
abbrev laidBoth : List (String × DataW Unit) := [("abecedary/letters.least", Rows.laid_abecedary_letters_least), ("abecedary/letters.lead", Rows.laid_abecedary_letters_lead)]
theorem zMd{W:World}(h:laidMetH Tryz.prog laidBoth W):Tabs W:=by
 have t : Lib.TabIs Tryz.prog W "abecedary/letters.least" .i32 [0, 0, 128, 2048, 65536] :=
  Lib.tabIs_of_head (rest := [("abecedary/letters.lead", Rows.laid_abecedary_letters_lead)]) zM3 zSj Tryz.underlying204 Tryz.underlying21 zSx zSz h
 have h2 : laidMetH Tryz.prog [("abecedary/letters.lead", Rows.laid_abecedary_letters_lead)] W := laidMetH.filter (fun x => x.1 == "abecedary/letters.lead") h
 have l : Lib.TabIs Tryz.prog W "abecedary/letters.lead" .u8 [0, 0, 192, 224, 240] :=
  Lib.tabIs_of_head (rest:=[]) zWd zWc Tryz.underlying203 Tryz.underlying5 zXa zW8 h2
 exact⟨l.cell zWd 2 (by decide),l.cell zWd 3 (by decide),l.cell zWd 4 (by decide),l.cell zWd 1 (by decide),
  t.cell zM3 1 (by decide),t.cell zM3 2 (by decide),t.cell zM3 3 (by decide),t.cell zM3 4 (by decide)⟩
def layLeast:Obj→Obj
 |.cells _ t frozen => .cells #[.int .i32 0,.int .i32 0,.int .i32 128,.int .i32 2048,.int .i32 65536] t frozen
 |o=>o
def layLead:Obj→Obj
 |.cells _ t frozen => .cells #[.int .u8 0,.int .u8 0,.int .u8 192,.int .u8 224,.int .u8 240] t frozen
 |o=>o
noncomputable def laidWorld(os:Os):World:=
 { World.holding Tryz.prog os ⟨#[],#[],[]⟩with heap:=((World.holding Tryz.prog os ⟨#[],#[],[]⟩).heap.modify 1 layLeast).modify 0 layLead }
end
section
open Go.ChangeShapes Go.WideShapes Go.ChangeAt Go.RowKit Go.Deep
theorem zOt:laidOutB Tryz.prog=true:=by kernel_rfl
theorem zMn:Tryz.prog.cellsOf 64=2:=by kernel_rfl
theorem zKr:Tryz.prog.cellsOf 9=1:=by kernel_rfl
theorem zLh:Tryz.prog.cellsOf 3=1:=by kernel_rfl
def big{H:Type}(d:DataW H):Nat:=match d with
 |.slice elems spare=>elems.length+spare.length
 |_=>0
theorem zSb{H:Type}{enc:TypeId×Value→H}{W:World}{fuel:Nat}{cs:List Value}{x:DataW H×List MemPlace}
 (h:DataW.trod enc Tryz.prog W 0 (fun _=>true) true fuel 64 cs=some x):∃p:Pr,cs=[.string p.1,.int .i64 p.2]∧p.1.size≤9223372036854775807:=by
 obtain⟨y0,y1,n,_,hl,g0,g1⟩:=trod_struct2 Tryz.underlying64 h;rw[zMn]at hl
 match cs,hl with
 |[v0,v1],_=>
  simp[zKr,zLh]at g0 g1;obtain⟨s,e0,_,w0⟩:=DataW.trod_string Tryz.underlying9 g0;obtain⟨z,e1,_,w1⟩:=DataW.trod_int Tryz.underlying3 g1;simp only[List.cons.injEq,and_true]at e0 e1;subst e0 e1;refine⟨(s,z),rfl,?_⟩;have hw:=w0;unfold maxLen at hw;exact hw
theorem pairs_in{H:Type}{enc:TypeId×Value→H}{W:World}{base:Nat}{v:Value}{d:DataW H}{p:List MemPlace}
 (hok:Value.okWide Tryz.prog W .any base 22 v) (h:DataW.Trod enc Tryz.prog W 0 (fun _=>true) true 22 v d p):∃L:List Pr,PRow W v L∧Sm L∧L.length≤9223372036854775807∧L.length≤big d:=by
 obtain⟨a0,len,cap,rfl⟩:=okWide_slice Tryz.underlying22 hok;obtain⟨fuel,hf⟩:=h;rcases open_slice Tryz.underlying22 hf with⟨hcs,hx⟩|⟨a,len',cap',m,n,D,Pl,hcs,_,hl,hm,hmm,hx,hel⟩
 · simp[Value.cells]at hcs
   obtain⟨rfl,rfl,rfl⟩:=hcs;exact⟨[],PRow.nil W,(fun x hx=>absurd hx List.not_mem_nil),by simp,by simp⟩
 · simp[Value.cells]at hcs
   obtain⟨rfl,rfl,rfl⟩:=hcs;(have hlm:len≤m:=by rw[hmm];split<;>omega);have each:∀i,i<m→∃o:Pr,o.1.size≤9223372036854775807∧W.cell? (a.add (i*2))=some (.string o.1)∧W.cell? (a.add (i*2+1))=some (.int .i64 o.2):=by
    intro i hi;obtain⟨cs',h1,h2⟩:=hel i hi;rw[zMn]at h1;obtain⟨_,hlen,hcell⟩:=World.cells?_some h1;obtain⟨q,rfl,hq⟩:=zSb h2;have c0:=hcell 0 (by simp);have c1:=hcell 1 (by simp);rw[add_add]at c0 c1;exact⟨q,hq,by simpa using c0,by simpa using c1⟩
   have hch:∃f:Nat→Pr,∀i,i<m→(f i).1.size≤9223372036854775807∧W.cell? (a.add (i*2))=some (.string (f i).1)∧W.cell? (a.add (i*2+1))=some (.int .i64 (f i).2):=
    ⟨fun i=>if hi:i<m then Classical.choose (each i hi)else (ByteArray.empty,0),fun i hi=>by
     simp only[dif_pos hi];exact Classical.choose_spec (each i hi)⟩
   obtain⟨f,hfe⟩:=hch;have hget:∀i o,((List.range len).map f)[i]?=some o→i<len∧o=f i:=fun i o hi=>by
    rw[List.getElem?_map]at hi;have hil:i<len:=by
     cases hr:(List.range len)[i]? with
     |none=>rw[hr]at hi;cases hi
     |some j=>have:=(List.getElem?_eq_some_iff.1 hr).1;simpa using this
    rw[List.getElem?_range hil]at hi;simp only[Option.map_some,Option.some.injEq]at hi;exact⟨hil,hi.symm⟩
   refine⟨(List.range len).map f,⟨some a,cap,by simp,fun h0=>?_⟩,?_,by unfold maxLen at hm;simp;omega,?_⟩
   · have h0':0<len:=by simpa using h0
     obtain⟨b,off,rfl⟩:∃b off,a=⟨b,off,none⟩:=by
      obtain⟨_,c0,_⟩:=hfe 0 (by omega);obtain⟨b,off,sp⟩:=a;cases sp with
      |none=>exact⟨b,off,rfl⟩
      |some s=>exfalso;revert c0;unfold Addr.add World.cell?;split<;>simp
     (have hadd:∀j,(⟨b,off,none⟩:Addr).add j=⟨b,off+j,none⟩:=fun j=>by unfold Addr.add;split<;>simp_all);refine⟨b,off,rfl,?_,fun i o hi=>?_⟩
     · obtain⟨_,c0,_⟩:=hfe 0 (by omega)
       rw[hadd]at c0;exact zAq c0
     · obtain⟨hil,rfl⟩:=hget i o hi
       obtain⟨q1,c0,c1⟩:=hfe i (by omega);rw[hadd]at c0 c1;exact⟨c0,by simpa[Nat.add_assoc]using c1⟩
   · intro x hx
     obtain⟨i,hi⟩:=List.mem_iff_getElem?.1 hx;obtain⟨hil,rfl⟩:=hget i x hi;exact(hfe i (by omega)).1
   · simp only[Prod.mk.injEq]at hx
     obtain⟨rfl,_⟩:=hx;simp[big]
end
