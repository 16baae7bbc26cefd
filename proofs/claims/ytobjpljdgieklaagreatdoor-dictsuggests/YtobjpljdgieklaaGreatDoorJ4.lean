import Derived.Test.YtobjpljdgieklaaGreatDoorJ2
import Derived.Test.YtobjpljdgieklaaGreatDoorTexts
import Derived.Test.YtobjpljdgieklaaGreatDoorJ1
import Derived.WalkSmall
import Derived.Shelf.SlSortCmp.KitK
import Derived.Deep.LoopGhost
set_option maxRecDepth 100000
namespace Go.Proofs.YtobjpljdgieklaaGreatDoor
section
open Go.RowKit Nums
theorem zAq{w:World}{b o:Nat}{v:Value}(h:w.cell? ⟨b,o,none⟩=some v):b<w.heap.size:=World.block_lt_of_cell? w ⟨b,o,none⟩ h
theorem Tabs.below{w w':World}(h:Tabs w)(hb:Below w.heap.size w w'):Tabs w':=by
 obtain⟨c2,c3,c4,c1,t1,t2,t3,t4⟩:=h;refine⟨?_,?_,?_,?_,?_,?_,?_,?_⟩
 all_goals (first
  |exact(hb.cell (p:=⟨0,2,none⟩) (zAq c2)).trans c2
  |exact(hb.cell (p:=⟨0,3,none⟩) (zAq c3)).trans c3
  |exact(hb.cell (p:=⟨0,4,none⟩) (zAq c4)).trans c4
  |exact(hb.cell (p:=⟨0,1,none⟩) (zAq c1)).trans c1
  |exact(hb.cell (p:=⟨1,1,none⟩) (zAq t1)).trans t1
  |exact(hb.cell (p:=⟨1,2,none⟩) (zAq t2)).trans t2
  |exact(hb.cell (p:=⟨1,3,none⟩) (zAq t3)).trans t3
  |exact(hb.cell (p:=⟨1,4,none⟩) (zAq t4)).trans t4)
theorem Tabs.drewN{w:World}(h:Tabs w)(n:Nat):Tabs (w.drewN n):=h
theorem zEp{s:ByteArray}(h:0<s.size):s.data.toList≠[]:=by
 intro e;have:=zAd s;rw[e]at this;simp at this;omega
theorem zE2{s:ByteArray}(h:¬0<s.size):s.data.toList=[]:=List.length_eq_zero_iff.1 (by rw[zAd];omega)
set_option maxHeartbeats 2000000 in
theorem zB9(s:ByteArray)(w:World)(ht:Tabs w)(hm:s.size≤9223372036854775807):
 Calls Tryz.prog 56 #[.string s] w fun e w'=>e = .returned (.bool (zAo s.data.toList))∧∃n,w'=w.drewN n:=by
 go_enter Tryz.func56,Tryz.ntmps56;go_wp2
 go_loopw [0,3] (fun t c wr=>∃(m:ByteArray) (pre:List Int),t = .string m∧m.size≤s.size∧c = .int .i64 pre.length∧pre.length≤24∧pre.all vis=true∧zA1 s.data.toList m.data.toList pre∧∃n,wr=w.drewN n)
  (fun t _ _=>zSh t)
 case atStart=>exact⟨s,[],rfl,Nat.le_refl _,rfl,by simp,rfl,zGl _,0,rfl⟩
 case round=>
  obtain⟨m,pre,rfl,hms,rfl,hp,hv,hL,nw,rfl⟩:=hrel;have HL:Hid (zA1 s.data.toList m.data.toList pre):=hL;have HV:Hid (pre.all vis=true):=hv;clear hL hv;by_cases h0:0<m.size
  · have hne:=zEp h0
    have hbd:=zR8 hne;rw[zAd]at hbd;have HNE:Hid (m.data.toList≠[]):=hne;clear hne;generalize hr:rd m.data.toList=q at hbd;obtain⟨r,n⟩:=q;have HR:Hid (rd m.data.toList=(r,n)):=hr;clear hr;simp only at hbd;by_cases hn:n=0
    · subst hn
      go_wp2_with (go_at_call 93;refine(zBq _ _ (ht.drewN _) h0 (by omega)).mono ?_;rintro e w' ⟨rfl,n2,rfl⟩;rw[HR.out]);go_ret;refine⟨?_,_,by first|rfl|rw[World.drewN_drewN]⟩;rw[zTi HL.out HNE.out (by rw[HR.out])];rfl
    have hn0:((n:Int)==0)=false:=beq_eq_false_iff_ne.2 (by omega);cases hvv:vis r
    · have HVV:Hid (vis r=false):=hvv
      clear hvv
      go_wp2_with (first
       |(go_at_call 93;refine(zBq _ _ (ht.drewN _) h0 (by omega)).mono ?_;rintro e w' ⟨rfl,n2,rfl⟩;rw[HR.out])
       |(go_at_call 94;refine(zGm _ _).mono ?_;rintro e w' ⟨rfl,rfl⟩;rw[HVV.out]))
      go_ret;refine⟨?_,_,by first|rfl|rw[World.drewN_drewN]⟩;rw[zN3 HL.out HNE.out (by rw[HR.out];exact hn) (by rw[HR.out];exact HVV.out)];rfl
    · have HVV:Hid (vis r=true):=hvv
      clear hvv;by_cases hc:pre.length=24
      · have HC:Hid (pre.length=24):=hc
        have hc':((pre.length:Int)==24)=true:=beq_iff_eq.2 (by omega);clear hc
        go_wp2_with (first
         |(go_at_call 93;refine(zBq _ _ (ht.drewN _) h0 (by omega)).mono ?_;rintro e w' ⟨rfl,n2,rfl⟩;rw[HR.out])
         |(go_at_call 94;refine(zGm _ _).mono ?_;rintro e w' ⟨rfl,rfl⟩;rw[HVV.out]))
        go_ret;refine⟨?_,_,by first|rfl|rw[World.drewN_drewN]⟩;rw[zTj HL.out HNE.out (by rw[HR.out];exact hn) HC.out];rfl
      · have hc':((pre.length:Int)==24)=false:=beq_eq_false_iff_ne.2 (by omega)
        go_wp2_with (first
         |(go_at_call 93;refine(zBq _ _ (ht.drewN _) h0 (by omega)).mono ?_;rintro e w' ⟨rfl,n2,rfl⟩;rw[HR.out])
         |(go_at_call 94;refine(zGm _ _).mono ?_;rintro e w' ⟨rfl,rfl⟩;rw[HVV.out]))
        go_roundw
        case rel=>
         refine⟨m.extract n m.size,pre++[r],rfl,by rw[zBr];omega,by simp,by simp;omega,?_,zOi HL.out HNE.out HR.out hn,_,by first|rfl|rw[World.drewN_drewN]⟩;have:=HV.out;have h2:=HVV.out;simp[this,h2]
        case measure=>simp only[zSh];rw[zBr];omega
  · have HN:Hid (m.data.toList=[]):=zE2 h0
    have HF:Hid (zAo s.data.toList=decide (0<pre.length)):=word_end (by have:=HL.out;rw[HN.out]at this;exact this) hp HV.out;go_wp2;go_ret;refine⟨?_,_,rfl⟩;rw[HF.out];rfl
end
section
open Go.RowKit Go.Shelf Go.Lib Go.Sort Pm
abbrev Pr:=ByteArray×Int
def encP(x:Pr):List Value:=[.string x.1,.int .i64 x.2]
def valP(x:Pr):Value := .agg #[.string x.1,.int .i64 x.2]
def zAa(a b:ByteArray):Bool:=Op.bytesLess a.data.toList b.data.toList
theorem bl_irr:∀a:List UInt8,Op.bytesLess a a=false
 |[]=>by rw[Op.bytesLess.eq_1]
 |a::x=>by rw[Op.bytesLess.eq_3,bl_irr x];simp
theorem bl_nil(a:List UInt8):Op.bytesLess a []=false:=by rw[Op.bytesLess.eq_1]
theorem bl_tr:∀a b c:List UInt8,Op.bytesLess a b=true→Op.bytesLess b c=true→Op.bytesLess a c=true
 |_,[],_,h,_=>by rw[bl_nil]at h;cases h
 |_,_::_,[],_,h=>by rw[bl_nil]at h;cases h
 |[],_::_,_::_,_,_=>by rw[Op.bytesLess.eq_2]
 |a::x,b::y,c::z,h1,h2=>by
  rw[Op.bytesLess.eq_3]at h1 h2 ⊢;simp only[Bool.or_eq_true,Bool.and_eq_true,decide_eq_true_eq,beq_iff_eq]at h1 h2 ⊢;rcases h1 with h1|⟨rfl,h1⟩
  · rcases h2 with h2|⟨rfl,h2⟩
    · exact .inl (UInt8.lt_trans h1 h2)
    · exact .inl h1
  · rcases h2 with h2|⟨rfl,h2⟩
    · exact .inl h2
    · exact .inr ⟨rfl,bl_tr x y z h1 h2⟩
theorem bl_tot:∀a b:List UInt8,Op.bytesLess a b=false→Op.bytesLess b a=false→a=b
 |[],[],_,_=>rfl
 |[],_::_,h,_=>by rw[Op.bytesLess.eq_2]at h;cases h
 |_::_,[],_,h=>by rw[Op.bytesLess.eq_2]at h;cases h
 |a::x,b::y,h1,h2=>by
  rw[Op.bytesLess.eq_3]at h1 h2;simp only[Bool.or_eq_false_iff,Bool.and_eq_false_iff,decide_eq_false_iff_not,beq_eq_false_iff_ne]at h1 h2;have e:a=b:=UInt8.le_antisymm (UInt8.not_lt.1 h2.1) (UInt8.not_lt.1 h1.1);subst e;rw[bl_tot x y (h1.2.resolve_left (fun h=>h rfl)) (h2.2.resolve_left (fun h=>h rfl))]
theorem zXj{a b:ByteArray}(h:a.data.toList=b.data.toList):a=b:=by
 cases a;cases b;simp only[ByteArray.mk.injEq]at h ⊢;exact Array.toList_inj.1 h
theorem lessB_sto:STO zAa:=⟨fun _=>bl_irr _,fun _ _ _=>bl_tr _ _ _,fun _ _ h1 h2=>zXj (bl_tot _ _ h1 h2)⟩
theorem zFc(a b:ByteArray):(a.toList==b.toList)=decide (a=b):=by
 rw[Bool.eq_iff_iff,beq_iff_eq,decide_eq_true_iff,ByteArray.toList_eq,ByteArray.toList_eq];exact⟨zXj,fun h=>by rw[h]⟩
theorem zDb(a b:ByteArray)(w:World):Calls Tryz.prog 100 #[.string a,.string b] w fun e w'=>e = .returned (.bool (zAa a b))∧w'=w:=by
 have HL:Hid (Op.bytesLess a.toList b.toList=zAa a b):=by
  show Op.bytesLess _ _=_;rw[ByteArray.toList_eq,ByteArray.toList_eq];rfl
 go_enter Tryz.func100,Tryz.ntmps100;go_wp2;go_ret;exact⟨by rw[HL.out];rfl,rfl⟩
def cfP(x y:Pr):Int:=if zAa x.1 y.1 then -1 else if zAa y.1 x.1 then 1 else 0
theorem cfP_lt(x y:Pr):ltOf cfP x y=plt zAa x y:=by
 unfold ltOf cfP plt;cases zAa x.1 y.1<;>cases zAa y.1 x.1<;>rfl
theorem cfP_ltf:ltOf cfP=plt zAa:=funext fun x=>funext fun y=>cfP_lt x y
set_option maxHeartbeats 1000000 in
theorem byWord_any(x y:Pr)(W:World):Calls Tryz.prog 136 #[.agg #[.string x.1,.int .i64 x.2],.agg #[.string y.1,.int .i64 y.2]] W fun e w'=>e = .returned (.int .i64 (cfP x y))∧∃q os',w'=grow (W.drewN q) os':=by
 have h1:=fun W'=>zDb x.1 y.1 W'
 have h2:=fun W'=>zDb y.1 x.1 W'
 have HC:Hid (cfP x y=if zAa x.1 y.1 then -1 else if zAa y.1 x.1 then 1 else 0):=rfl;generalize zAa x.1 y.1=b1 at h1 HC;generalize zAa y.1 x.1=b2 at h2 HC;cases b1
 · cases b2
   all_goals
    go_enter Tryz.func136,Tryz.ntmps136;go_wp2_with (first|(go_at_call 100;refine(h1 _).mono ?_;rintro e w' ⟨rfl,rfl⟩)|(go_at_call 100;refine(h2 _).mono ?_;rintro e w' ⟨rfl,rfl⟩));go_ret;exact⟨by rw[HC.out];rfl,0,_,by rw[alloc_eq_grow,alloc_eq_grow,grow_grow];rfl⟩
 · go_enter Tryz.func136,Tryz.ntmps136
   go_wp2_with (go_at_call 100;refine(h1 _).mono ?_;rintro e w' ⟨rfl,rfl⟩);go_ret;exact⟨by rw[HC.out];rfl,0,_,by rw[alloc_eq_grow,alloc_eq_grow,grow_grow];rfl⟩
theorem byWord_lays(blk off size:Nat)(w:World):CmpLays Tryz.prog 136 #[] encP 2 cfP blk off size w:=
 fun _ _ _ _ x y=>byWord_any x y _
def loadP(P:Program)(x:Value)(w:World):Result Value:=(Instr.loadAt 64 x).run P w
def storeP(P:Program)(x y:Value)(w:World):Result Unit:=(Instr.storeAt 64 x y).run P w
section
variable (ρ:Operand→Value) (x y:Operand) (dst:Option Tmp) (ty:TypeId) (pos:String) (af:Array Edge) (g:Option (Nat×Bool)) (w:World)
theorem exec_load_P:(execOp ρ ⟨dst,.load 64 x,ty,pos,af,g⟩).run Tryz.prog w=(loadP Tryz.prog (ρ x) w).andThen (fun v w' => .ok (.value v) w'):=by
 simp only[execOp,Sem.run_bind,loadP,Sem.run_pure]
theorem exec_store_P:(execOp ρ ⟨dst,.store 64 x y,ty,pos,af,g⟩).run Tryz.prog w=(storeP Tryz.prog (ρ x) (ρ y) w).andThen (fun _ w' => .ok .skip w'):=by
 simp only[execOp,Sem.run_bind,storeP,Sem.run_pure]
end
theorem loadP_at{w:World}{b o:Nat}{x:Pr}(h0:w.cell? ⟨b,o,none⟩=some (.string x.1))(h1:w.cell? ⟨b,o+1,none⟩=some (.int .i64 x.2)):loadP Tryz.prog (.pointer (some ⟨b,o,none⟩)) w = .ok (valP x) w:=by
 unfold loadP valP;simp[go_sem,h0,h1];try rfl
theorem storeP_at{w:World}{b o:Nat}{x:Pr}{u v:Value}(h0:w.cell? ⟨b,o,none⟩=some u)(h1:w.cell? ⟨b,o+1,none⟩=some v)(f0:w.frozen? ⟨b,o,none⟩=false)(f1:w.frozen? ⟨b,o+1,none⟩=false):storeP Tryz.prog (.pointer (some ⟨b,o,none⟩)) (valP x) w = .ok () (w.setCells b o (encP x)):=by
 unfold storeP valP;simp[go_sem,h0,h1,f0,f1,encP,World.setCells];try rfl
theorem cellP0{w:World}{blk off:Nat}{d:Array Pr}(h:HoldsK encP 2 w blk off d){i:Nat}(hi:i<d.size):w.cell? ⟨blk,off+i*2,none⟩=some (.string d[i]!.1)∧w.frozen? ⟨blk,off+i*2,none⟩=false:=h.cell (c:=0) hi (by omega)
theorem cellP1{w:World}{blk off:Nat}{d:Array Pr}(h:HoldsK encP 2 w blk off d){i:Nat}(hi:i<d.size):w.cell? ⟨blk,off+i*2+1,none⟩=some (.int .i64 d[i]!.2)∧w.frozen? ⟨blk,off+i*2+1,none⟩=false:=h.cell (c:=1) hi (by omega)
theorem encP_k(x:Pr):(encP x).length=2:=rfl
theorem encP_one(x:Pr):∀v∈encP x,v.oneCell'=true:=by intro v hv;simp[encP]at hv;rcases hv with rfl|rfl<;>rfl
structure RowP(w0:World)(blk off n:Nat):Prop where
 ex:∃d0:Array Pr,d0.size=n∧RowK encP 2 w0 blk off d0
 big:n<4611686018427387904
section
variable {w0 W:World} {blk off n:Nat} {d:Array Pr}
theorem RowP.holds(R:RowP w0 blk off n)(S:SWK encP 2 w0 blk off d W)(hs:d.size=n):HoldsK encP 2 W blk off d:=by
 obtain⟨⟨d0,e,K⟩,_⟩:=R;exact S.holds K.hblk K.hH (by omega)
theorem RowP.load(R:RowP w0 blk off n)(S:SWK encP 2 w0 blk off d W)(hs:d.size=n)(i:Nat)(hi:i<n):loadP Tryz.prog (.pointer (some ⟨blk,off+i*2,none⟩)) W = .ok (valP d[i]!) W:=by
 have H:=R.holds S hs;exact loadP_at (cellP0 H (by omega)).1 (cellP1 H (by omega)).1
theorem RowP.ld(R:RowP w0 blk off n)(S:SWK encP 2 w0 blk off d W)(hs:d.size=n)(i:Nat)(hi:i<n)(q:Nat)(os:Array Obj):loadP Tryz.prog (.pointer (some ⟨blk,off+i*2,none⟩)) (grow (W.drewN q) os) = .ok (valP d[i]!) (grow (W.drewN q) os):=R.load (S.grown q os) hs i hi
theorem RowP.ld1(R:RowP w0 blk off n)(S:SWK encP 2 w0 blk off d W)(hs:d.size=n)(i:Nat)(hi:i<n):loadP Tryz.prog (.pointer (some ⟨blk,off+i*2,none⟩)) W.drew = .ok (valP d[i]!) W.drew:=R.load S.drew hs i hi
theorem RowP.st1(R:RowP w0 blk off n)(S:SWK encP 2 w0 blk off d W)(hs:d.size=n)(i:Nat)(hi:i<n)(y:Pr):storeP Tryz.prog (.pointer (some ⟨blk,off+i*2,none⟩)) (valP y) W.drew = .ok () (W.drew.setCells blk (off+i*2) (encP y)):=by
 have H:=R.holds S.drew hs;exact storeP_at (cellP0 H (by omega)).1 (cellP1 H (by omega)).1 (cellP0 H (by omega)).2 (cellP1 H (by omega)).2
theorem RowP.st2(R:RowP w0 blk off n)(S:SWK encP 2 w0 blk off d W)(hs:d.size=n)(i j:Nat)(hi:i<n)(hj:j<n)(y x:Pr):
 storeP Tryz.prog (.pointer (some ⟨blk,off+j*2,none⟩)) (valP x) (W.drew.setCells blk (off+i*2) (encP y)) = .ok () ((W.drew.setCells blk (off+i*2) (encP y)).setCells blk (off+j*2) (encP x)):=by
 have H:=holds_setCells_c (R.holds S.drew hs) (i*2) (encP y) (by rw[encP_k,size_flatK];omega);have c0:=H (j*2) (by rw[size_setMany,size_flatK];omega);have c1:=H (j*2+1) (by rw[size_setMany,size_flatK];omega);exact storeP_at c0.1 (by rw[Nat.add_assoc];exact c1.1) c0.2 (by rw[Nat.add_assoc];exact c1.2)
theorem RowP.swapped(R:RowP w0 blk off n)(S:SWK encP 2 w0 blk off d W)(hs:d.size=n)(i j:Nat)(hi:i<n)(hj:j<n):
 SWK encP 2 w0 blk off (swp d i j) ((W.drew.setCells blk (off+i*2) (encP d[j]!)).setCells blk (off+j*2) (encP d[i]!)):=by
 obtain⟨⟨d0,e,K⟩,_⟩:=R;exact S.swapped K i j (by omega) (by omega)
theorem RowP.cmp(S:SWK encP 2 w0 blk off d W)(x y:Pr)(q:Nat)(os:Array Obj):
 Calls Tryz.prog 136 #[valP x,valP y] (grow (W.drewN q) os) fun e w'=>e = .returned (.int .i64 (cfP x y))∧∃q' os',w'=grow ((grow (W.drewN q) os).drewN q') os':=S.cmp (byWord_lays blk off d.size w0) rfl x y q os
end
theorem zAr:Tryz.prog.follows .mixedOrders=true:=by kernel_rfl
end
section
open Go.RowKit Go.Shelf Go.Lib Go.Sort Pm
set_option maxRecDepth 1000000
attribute [local go_sem ↓] exec_load_P exec_store_P
set_option maxHeartbeats 4000000 in
theorem swapRange_any(blk off n cap:Nat)(w0 w:World)(R:RowP w0 blk off n)(A X M Y B:List Pr)(S:SWK encP 2 w0 blk off (A++(X++(M++(Y++B)))).toArray w)(hn:(A++(X++(M++(Y++B)))).length=n)(hxy:X.length=Y.length)(a b c:Nat)(ha:a=A.length)(hb:b=A.length+X.length+M.length)(hc:c=X.length):
 Calls Tryz.prog 202 #[.slice (some ⟨blk,off,none⟩) n cap,.int .i64 a,.int .i64 b,.int .i64 c,.func (.func 136) #[] #[]] w fun e w'=>e = .returned (.tuple #[])∧SWK encP 2 w0 blk off (A++(Y++(M++(X++B)))).toArray w':=by
 have hbig:=R.big;have S0:Aside (SWK encP 2 w0 blk off (A++(X++(M++(Y++B)))).toArray w):=S;have hn':A.length+(X.length+(M.length+(Y.length+B.length)))=n:=by simpa using hn
 have HN:Hid (A.length+(X.length+(M.length+(Y.length+B.length)))=n):=hn';have HXY:Hid (X.length=Y.length):=hxy;have HA:Hid (a=A.length):=ha;have HB:Hid (b=A.length+X.length+M.length):=hb;have HC:Hid (c=X.length):=hc;have hbn:b+c≤n:=by omega
 have habn:a+c≤n:=by omega
 have mixed:=zAr;clear S hn hn' hxy ha hb hc;go_enter Tryz.func202,Tryz.ntmps202;go_wp2
 go_loopg [10] c (fun g s10 wr=>∃(i:Nat) (l:List Pr),s10 = .int .i64 i∧i≤c∧c-i≤g∧l.length=n∧Aside (SWK encP 2 w0 blk off l.toArray wr)∧Hid (l=A++(Y.take i++(X.drop i++(M++(X.take i++(Y.drop i++B)))))))
 case atStart=>exact⟨0,_,rfl,Nat.zero_le _,by omega,by simpa using HN.out,S0,by show _=_;simp⟩
 case round=>
  clear S0;obtain⟨i,l,rfl,hic,hg,hln,S1,HL⟩:=hrel;by_cases hlt:i<c
  · have hltz:(i:Int)<(c:Int):=by omega
    (have hX:i<X.length:=by have:=HC.out;omega);(have hY:i<Y.length:=by have:=HXY.out;omega);(have ea:((a:Int)+(i:Int)).toNat=a+i:=by omega);(have pa:(0:Int)≤(a:Int)+(i:Int):=by omega);(have ba:(a:Int)+(i:Int)<(n:Int):=by omega);(have ra:IntKind.i64.wrap ((a:Int)+(i:Int))=(a:Int)+(i:Int):=by rw[IntKind.wrap_i64];omega);(have ec:((b:Int)+(i:Int)).toNat=b+i:=by omega);(have pc:(0:Int)≤(b:Int)+(i:Int):=by omega);(have bc:(b:Int)+(i:Int)<(n:Int):=by omega);(have rc:IntKind.i64.wrap ((b:Int)+(i:Int))=(b:Int)+(i:Int):=by rw[IntKind.wrap_i64];omega);(have hs:l.toArray.size=n:=by simpa using hln);have S2:Aside (SWK encP 2 w0 blk off (swp l.toArray (a+i) (b+i)) ((wr.drew.setCells blk (off+(a+i)*2) (encP l.toArray[b+i]!)).setCells blk (off+(b+i)*2) (encP l.toArray[a+i]!))):=R.swapped S1.out hs (a+i) (b+i) (by omega) (by omega);have la:=R.ld1 S1.out hs (a+i) (by omega);have lb:=R.ld1 S1.out hs (b+i) (by omega);have sa:=R.st1 S1.out hs (a+i) (by omega) l.toArray[b+i]!;have sb:=R.st2 S1.out hs (a+i) (b+i) (by omega) (by omega) l.toArray[b+i]! l.toArray[a+i]!;have HSW:Hid (swp l.toArray (a+i) (b+i)=(A++(Y.take (i+1)++(X.drop (i+1)++(M++(X.take (i+1)++(Y.drop (i+1)++B)))))).toArray):=by
     show _=_;have e:l=(A++Y.take i)++X[i]::((X.drop (i+1)++(M++X.take i))++Y[i]::(Y.drop (i+1)++B)):=by
      rw[HL.out,List.drop_eq_getElem_cons hX,List.drop_eq_getElem_cons hY];simp only[List.append_assoc,List.cons_append]
     rw[zPz l _ _ _ _ _ (a+i) (b+i) e (by simp;have:=HA.out;omega) (by simp;have:=HB.out;have:=HXY.out;omega),List.take_succ_eq_append_getElem hX,List.take_succ_eq_append_getElem hY];simp only[List.append_assoc,List.cons_append,List.nil_append]
    generalize l.toArray[b+i]! = yI at S2 lb sa sb;generalize l.toArray[a+i]! = xI at S2 la sb;clear S1 hs hX hY;go_wp2_with fail
    go_big_region_o
    clear la lb sa sb;generalize (wr.drew.setCells blk (off+(a+i)*2) (encP yI)).setCells blk (off+(b+i)*2) (encP xI)=w2 at S2 ⊢;go_wp2;go_roundg (c-(i+1));(case measure=>omega);case rel=>exact⟨i+1,_,by go_num,by omega,Nat.le_refl _,by have:=HN.out;have:=HXY.out;have:=HC.out;simp;omega,HSW.out▸S2,rfl⟩
  · have hltz:¬(i:Int)<(c:Int):=by omega
    go_wp2
    go_end0
    have e:l=A++(Y++(M++(X++B))):=by
     (have h1:X.length≤i:=by have:=HC.out;omega);(have h2:Y.length≤i:=by have:=HXY.out;omega);rw[HL.out,List.take_of_length_le h1,List.take_of_length_le h2,List.drop_eq_nil_of_le h1,List.drop_eq_nil_of_le h2];simp
    exact⟨rfl,e▸S1.out⟩
end
