import Derived.Test.YtobjpljdgieklaaGreatDoorJ2
import Derived.Test.YtobjpljdgieklaaGreatDoorTexts
import Derived.Test.YtobjpljdgieklaaGreatDoorJ1
import Derived.WalkSmall
import Derived.Shelf.SlSortCmp.KitK
import Derived.Deep.LoopGhost
set_option maxRecDepth 100000
set_option maxHeartbeats 8000000
namespace Go.Proofs.YtobjpljdgieklaaGreatDoor
section
open Go.RowKit Nums
theorem zAp{w:World}{b o:Nat}{v:Value}(h:w.cell? ⟨b,o,none⟩=some v):b<w.heap.size:=World.block_lt_of_cell? w ⟨b,o,none⟩ h
theorem Tabs.below{w w':World}(h:Tabs w)(hb:Below w.heap.size w w'):Tabs w':=by
 obtain⟨c2,c3,c4,c1,t1,t2,t3,t4⟩:=h;refine⟨?_,?_,?_,?_,?_,?_,?_,?_⟩
 all_goals (first
  |exact(hb.cell (p:=⟨0,2,none⟩) (zAp c2)).trans c2
  |exact(hb.cell (p:=⟨0,3,none⟩) (zAp c3)).trans c3
  |exact(hb.cell (p:=⟨0,4,none⟩) (zAp c4)).trans c4
  |exact(hb.cell (p:=⟨0,1,none⟩) (zAp c1)).trans c1
  |exact(hb.cell (p:=⟨1,1,none⟩) (zAp t1)).trans t1
  |exact(hb.cell (p:=⟨1,2,none⟩) (zAp t2)).trans t2
  |exact(hb.cell (p:=⟨1,3,none⟩) (zAp t3)).trans t3
  |exact(hb.cell (p:=⟨1,4,none⟩) (zAp t4)).trans t4)
theorem Tabs.drewN{w:World}(h:Tabs w)(n:Nat):Tabs (w.drewN n):=h
theorem zEl{s:ByteArray}(h:0<s.size):s.data.toList≠[]:=by
 intro e;have:=zAj s;rw[e]at this;simp at this;omega
theorem zE2{s:ByteArray}(h:¬0<s.size):s.data.toList=[]:=List.length_eq_zero_iff.1 (by rw[zAj];omega)
theorem zCj(s:ByteArray)(w:World)(ht:Tabs w)(hm:s.size≤9223372036854775807):
 Calls Tryz.prog 56 #[.string s] w fun e w'=>e = .returned (.bool (zAq s.data.toList))∧∃n,w'=w.drewN n:=by
 go_enter Tryz.func56,Tryz.ntmps56;go_wp2
 go_loopw [0,3] (fun t c wr=>∃(m:ByteArray) (pre:List Int),t = .string m∧m.size≤s.size∧c = .int .i64 pre.length∧pre.length≤24∧pre.all vis=true∧zAz s.data.toList m.data.toList pre∧∃n,wr=w.drewN n)
  (fun t _ _=>zSh t)
 case atStart=>exact⟨s,[],rfl,Nat.le_refl _,rfl,by simp,rfl,zGj _,0,rfl⟩
 case round=>
  obtain⟨m,pre,rfl,hms,rfl,hp,hv,hL,nw,rfl⟩:=hrel;have HL:Hid (zAz s.data.toList m.data.toList pre):=hL;have HV:Hid (pre.all vis=true):=hv;clear hL hv;by_cases h0:0<m.size
  · have hne:=zEl h0
    have hbd:=zR6 hne;rw[zAj]at hbd;have HNE:Hid (m.data.toList≠[]):=hne;clear hne;generalize hr:rd m.data.toList=q at hbd;obtain⟨r,n⟩:=q;have HR:Hid (rd m.data.toList=(r,n)):=hr;clear hr;simp only at hbd;by_cases hn:n=0
    · subst hn
      go_wp2_with (go_at_call 93;refine(zBs _ _ (ht.drewN _) h0 (by omega)).mono ?_;rintro e w' ⟨rfl,n2,rfl⟩;rw[HR.out]);go_ret;refine⟨?_,_,by first|rfl|rw[World.drewN_drewN]⟩;rw[zTg HL.out HNE.out (by rw[HR.out])];rfl
    have hn0:((n:Int)==0)=false:=beq_eq_false_iff_ne.2 (by omega);cases hvv:vis r
    · have HVV:Hid (vis r=false):=hvv
      clear hvv
      go_wp2_with (first
       |(go_at_call 93;refine(zBs _ _ (ht.drewN _) h0 (by omega)).mono ?_;rintro e w' ⟨rfl,n2,rfl⟩;rw[HR.out])
       |(go_at_call 94;refine(zGk _ _).mono ?_;rintro e w' ⟨rfl,rfl⟩;rw[HVV.out]))
      go_ret;refine⟨?_,_,by first|rfl|rw[World.drewN_drewN]⟩;rw[zN1 HL.out HNE.out (by rw[HR.out];exact hn) (by rw[HR.out];exact HVV.out)];rfl
    · have HVV:Hid (vis r=true):=hvv
      clear hvv;by_cases hc:pre.length=24
      · have HC:Hid (pre.length=24):=hc
        have hc':((pre.length:Int)==24)=true:=beq_iff_eq.2 (by omega);clear hc
        go_wp2_with (first
         |(go_at_call 93;refine(zBs _ _ (ht.drewN _) h0 (by omega)).mono ?_;rintro e w' ⟨rfl,n2,rfl⟩;rw[HR.out])
         |(go_at_call 94;refine(zGk _ _).mono ?_;rintro e w' ⟨rfl,rfl⟩;rw[HVV.out]))
        go_ret;refine⟨?_,_,by first|rfl|rw[World.drewN_drewN]⟩;rw[zTh HL.out HNE.out (by rw[HR.out];exact hn) HC.out];rfl
      · have hc':((pre.length:Int)==24)=false:=beq_eq_false_iff_ne.2 (by omega)
        go_wp2_with (first
         |(go_at_call 93;refine(zBs _ _ (ht.drewN _) h0 (by omega)).mono ?_;rintro e w' ⟨rfl,n2,rfl⟩;rw[HR.out])
         |(go_at_call 94;refine(zGk _ _).mono ?_;rintro e w' ⟨rfl,rfl⟩;rw[HVV.out]))
        go_roundw
        case rel=>
         refine⟨m.extract n m.size,pre++[r],rfl,by rw[zBt];omega,by simp,by simp;omega,?_,zOc HL.out HNE.out HR.out hn,_,by first|rfl|rw[World.drewN_drewN]⟩;have:=HV.out;have h2:=HVV.out;simp[this,h2]
        case measure=>simp only[zSh];rw[zBt];omega
  · have HN:Hid (m.data.toList=[]):=zE2 h0
    have HF:Hid (zAq s.data.toList=decide (0<pre.length)):=word_end (by have:=HL.out;rw[HN.out]at this;exact this) hp HV.out;go_wp2;go_ret;refine⟨?_,_,rfl⟩;rw[HF.out];rfl
end
section
open Go.RowKit Go.Shelf Go.Lib Go.Sort Pm
abbrev Pr:=ByteArray×Int
def encP(x:Pr):List Value:=[.string x.1,.int .i64 x.2]
def valP(x:Pr):Value := .agg #[.string x.1,.int .i64 x.2]
def zAa(a b:ByteArray):Bool:=Op.bytesLess a.data.toList b.data.toList
theorem bl_irr:∀a:List UInt8,Op.bytesLess a a=false
 |[]=>by rw[Op.bytesLess.eq_1]
 |a::x=>by rw[Op.bytesLess.eq_3,bl_irr x];simp
theorem bl_nil(a:List UInt8):Op.bytesLess a []=false:=by rw[Op.bytesLess.eq_1]
theorem bl_tr:∀a b c:List UInt8,Op.bytesLess a b=true→Op.bytesLess b c=true→Op.bytesLess a c=true
 |_,[],_,h,_=>by rw[bl_nil]at h;cases h
 |_,_::_,[],_,h=>by rw[bl_nil]at h;cases h
 |[],_::_,_::_,_,_=>by rw[Op.bytesLess.eq_2]
 |a::x,b::y,c::z,h1,h2=>by
  rw[Op.bytesLess.eq_3]at h1 h2 ⊢;simp only[Bool.or_eq_true,Bool.and_eq_true,decide_eq_true_eq,beq_iff_eq]at h1 h2 ⊢;rcases h1 with h1|⟨rfl,h1⟩
  · rcases h2 with h2|⟨rfl,h2⟩
    · exact .inl (UInt8.lt_trans h1 h2)
    · exact .inl h1
  · rcases h2 with h2|⟨rfl,h2⟩
    · exact .inl h2
    · exact .inr ⟨rfl,bl_tr x y z h1 h2⟩
theorem bl_tot:∀a b:List UInt8,Op.bytesLess a b=false→Op.bytesLess b a=false→a=b
 |[],[],_,_=>rfl
 |[],_::_,h,_=>by rw[Op.bytesLess.eq_2]at h;cases h
 |_::_,[],_,h=>by rw[Op.bytesLess.eq_2]at h;cases h
 |a::x,b::y,h1,h2=>by
  rw[Op.bytesLess.eq_3]at h1 h2;simp only[Bool.or_eq_false_iff,Bool.and_eq_false_iff,decide_eq_false_iff_not,beq_eq_false_iff_ne]at h1 h2;have e:a=b:=UInt8.le_antisymm (UInt8.not_lt.1 h2.1) (UInt8.not_lt.1 h1.1);subst e;rw[bl_tot x y (h1.2.resolve_left (fun h=>h rfl)) (h2.2.resolve_left (fun h=>h rfl))]
theorem zXc{a b:ByteArray}(h:a.data.toList=b.data.toList):a=b:=by
 cases a;cases b;simp only[ByteArray.mk.injEq]at h ⊢;exact Array.toList_inj.1 h
theorem lessB_sto:STO zAa:=⟨fun _=>bl_irr _,fun _ _ _=>bl_tr _ _ _,fun _ _ h1 h2=>zXc (bl_tot _ _ h1 h2)⟩
theorem zRv(a b:ByteArray):(a.toList==b.toList)=decide (a=b):=by
 rw[Bool.eq_iff_iff,beq_iff_eq,decide_eq_true_iff,ByteArray.toList_eq,ByteArray.toList_eq];exact⟨zXc,fun h=>by rw[h]⟩
theorem zDc(a b:ByteArray)(w:World):Calls Tryz.prog 100 #[.string a,.string b] w fun e w'=>e = .returned (.bool (zAa a b))∧w'=w:=by
 have HL:Hid (Op.bytesLess a.toList b.toList=zAa a b):=by
  show Op.bytesLess _ _=_;rw[ByteArray.toList_eq,ByteArray.toList_eq];rfl
 go_enter Tryz.func100,Tryz.ntmps100;go_wp2;go_ret;exact⟨by rw[HL.out];rfl,rfl⟩
def cfP(x y:Pr):Int:=if zAa x.1 y.1 then -1 else if zAa y.1 x.1 then 1 else 0
theorem cfP_lt(x y:Pr):ltOf cfP x y=plt zAa x y:=by
 unfold ltOf cfP plt;cases zAa x.1 y.1<;>cases zAa y.1 x.1<;>rfl
theorem cfP_ltf:ltOf cfP=plt zAa:=funext fun x=>funext fun y=>cfP_lt x y
theorem byWord_any(x y:Pr)(W:World):Calls Tryz.prog 136 #[.agg #[.string x.1,.int .i64 x.2],.agg #[.string y.1,.int .i64 y.2]] W fun e w'=>e = .returned (.int .i64 (cfP x y))∧∃q os',w'=grow (W.drewN q) os':=by
 have h1:=fun W'=>zDc x.1 y.1 W'
 have h2:=fun W'=>zDc y.1 x.1 W'
 have HC:Hid (cfP x y=if zAa x.1 y.1 then -1 else if zAa y.1 x.1 then 1 else 0):=rfl;generalize zAa x.1 y.1=b1 at h1 HC;generalize zAa y.1 x.1=b2 at h2 HC;cases b1
 · cases b2
   all_goals
    go_enter Tryz.func136,Tryz.ntmps136;go_wp2_with (first|(go_at_call 100;refine(h1 _).mono ?_;rintro e w' ⟨rfl,rfl⟩)|(go_at_call 100;refine(h2 _).mono ?_;rintro e w' ⟨rfl,rfl⟩));go_ret;exact⟨by rw[HC.out];rfl,0,_,by rw[alloc_eq_grow,alloc_eq_grow,grow_grow];rfl⟩
 · go_enter Tryz.func136,Tryz.ntmps136
   go_wp2_with (go_at_call 100;refine(h1 _).mono ?_;rintro e w' ⟨rfl,rfl⟩);go_ret;exact⟨by rw[HC.out];rfl,0,_,by rw[alloc_eq_grow,alloc_eq_grow,grow_grow];rfl⟩
theorem byWord_lays(blk off size:Nat)(w:World):CmpLays Tryz.prog 136 #[] encP 2 cfP blk off size w:=
 fun _ _ _ _ x y=>byWord_any x y _
def loadP(P:Program)(x:Value)(w:World):Result Value:=(Instr.loadAt 64 x).run P w
def storeP(P:Program)(x y:Value)(w:World):Result Unit:=(Instr.storeAt 64 x y).run P w
section
variable (ρ:Operand→Value) (x y:Operand) (dst:Option Tmp) (ty:TypeId) (pos:String) (af:Array Edge) (g:Option (Nat×Bool)) (w:World)
theorem exec_load_P:(execOp ρ ⟨dst,.load 64 x,ty,pos,af,g⟩).run Tryz.prog w=(loadP Tryz.prog (ρ x) w).andThen (fun v w' => .ok (.value v) w'):=by
 simp only[execOp,Sem.run_bind,loadP,Sem.run_pure]
theorem exec_store_P:(execOp ρ ⟨dst,.store 64 x y,ty,pos,af,g⟩).run Tryz.prog w=(storeP Tryz.prog (ρ x) (ρ y) w).andThen (fun _ w' => .ok .skip w'):=by
 simp only[execOp,Sem.run_bind,storeP,Sem.run_pure]
end
theorem loadP_at{w:World}{b o:Nat}{x:Pr}(h0:w.cell? ⟨b,o,none⟩=some (.string x.1))(h1:w.cell? ⟨b,o+1,none⟩=some (.int .i64 x.2)):loadP Tryz.prog (.pointer (some ⟨b,o,none⟩)) w = .ok (valP x) w:=by
 unfold loadP valP;simp[go_sem,h0,h1];try rfl
theorem storeP_at{w:World}{b o:Nat}{x:Pr}{u v:Value}(h0:w.cell? ⟨b,o,none⟩=some u)(h1:w.cell? ⟨b,o+1,none⟩=some v)(f0:w.frozen? ⟨b,o,none⟩=false)(f1:w.frozen? ⟨b,o+1,none⟩=false):storeP Tryz.prog (.pointer (some ⟨b,o,none⟩)) (valP x) w = .ok () (w.setCells b o (encP x)):=by
 unfold storeP valP;simp[go_sem,h0,h1,f0,f1,encP,World.setCells];try rfl
theorem cellP0{w:World}{blk off:Nat}{d:Array Pr}(h:HoldsK encP 2 w blk off d){i:Nat}(hi:i<d.size):w.cell? ⟨blk,off+i*2,none⟩=some (.string d[i]!.1)∧w.frozen? ⟨blk,off+i*2,none⟩=false:=h.cell (c:=0) hi (by omega)
theorem cellP1{w:World}{blk off:Nat}{d:Array Pr}(h:HoldsK encP 2 w blk off d){i:Nat}(hi:i<d.size):w.cell? ⟨blk,off+i*2+1,none⟩=some (.int .i64 d[i]!.2)∧w.frozen? ⟨blk,off+i*2+1,none⟩=false:=h.cell (c:=1) hi (by omega)
theorem encP_k(x:Pr):(encP x).length=2:=rfl
theorem encP_one(x:Pr):∀v∈encP x,v.oneCell'=true:=by intro v hv;simp[encP]at hv;rcases hv with rfl|rfl<;>rfl
structure RowP(w0:World)(blk off n:Nat):Prop where
 ex:∃d0:Array Pr,d0.size=n∧RowK encP 2 w0 blk off d0
 big:n<4611686018427387904
section
variable {w0 W:World} {blk off n:Nat} {d:Array Pr}
theorem RowP.holds(R:RowP w0 blk off n)(S:SWK encP 2 w0 blk off d W)(hs:d.size=n):HoldsK encP 2 W blk off d:=by
 obtain⟨⟨d0,e,K⟩,_⟩:=R;exact S.holds K.hblk K.hH (by omega)
theorem RowP.load(R:RowP w0 blk off n)(S:SWK encP 2 w0 blk off d W)(hs:d.size=n)(i:Nat)(hi:i<n):loadP Tryz.prog (.pointer (some ⟨blk,off+i*2,none⟩)) W = .ok (valP d[i]!) W:=by
 have H:=R.holds S hs;exact loadP_at (cellP0 H (by omega)).1 (cellP1 H (by omega)).1
theorem RowP.ld(R:RowP w0 blk off n)(S:SWK encP 2 w0 blk off d W)(hs:d.size=n)(i:Nat)(hi:i<n)(q:Nat)(os:Array Obj):loadP Tryz.prog (.pointer (some ⟨blk,off+i*2,none⟩)) (grow (W.drewN q) os) = .ok (valP d[i]!) (grow (W.drewN q) os):=R.load (S.grown q os) hs i hi
theorem RowP.ld1(R:RowP w0 blk off n)(S:SWK encP 2 w0 blk off d W)(hs:d.size=n)(i:Nat)(hi:i<n):loadP Tryz.prog (.pointer (some ⟨blk,off+i*2,none⟩)) W.drew = .ok (valP d[i]!) W.drew:=R.load S.drew hs i hi
theorem RowP.st1(R:RowP w0 blk off n)(S:SWK encP 2 w0 blk off d W)(hs:d.size=n)(i:Nat)(hi:i<n)(y:Pr):storeP Tryz.prog (.pointer (some ⟨blk,off+i*2,none⟩)) (valP y) W.drew = .ok () (W.drew.setCells blk (off+i*2) (encP y)):=by
 have H:=R.holds S.drew hs;exact storeP_at (cellP0 H (by omega)).1 (cellP1 H (by omega)).1 (cellP0 H (by omega)).2 (cellP1 H (by omega)).2
theorem RowP.st2(R:RowP w0 blk off n)(S:SWK encP 2 w0 blk off d W)(hs:d.size=n)(i j:Nat)(hi:i<n)(hj:j<n)(y x:Pr):
 storeP Tryz.prog (.pointer (some ⟨blk,off+j*2,none⟩)) (valP x) (W.drew.setCells blk (off+i*2) (encP y)) = .ok () ((W.drew.setCells blk (off+i*2) (encP y)).setCells blk (off+j*2) (encP x)):=by
 have H:=holds_setCells_c (R.holds S.drew hs) (i*2) (encP y) (by rw[encP_k,size_flatK];omega);have c0:=H (j*2) (by rw[size_setMany,size_flatK];omega);have c1:=H (j*2+1) (by rw[size_setMany,size_flatK];omega);exact storeP_at c0.1 (by rw[Nat.add_assoc];exact c1.1) c0.2 (by rw[Nat.add_assoc];exact c1.2)
theorem RowP.swapped(R:RowP w0 blk off n)(S:SWK encP 2 w0 blk off d W)(hs:d.size=n)(i j:Nat)(hi:i<n)(hj:j<n):
 SWK encP 2 w0 blk off (swp d i j) ((W.drew.setCells blk (off+i*2) (encP d[j]!)).setCells blk (off+j*2) (encP d[i]!)):=by
 obtain⟨⟨d0,e,K⟩,_⟩:=R;exact S.swapped K i j (by omega) (by omega)
theorem RowP.cmp(S:SWK encP 2 w0 blk off d W)(x y:Pr)(q:Nat)(os:Array Obj):
 Calls Tryz.prog 136 #[valP x,valP y] (grow (W.drewN q) os) fun e w'=>e = .returned (.int .i64 (cfP x y))∧∃q' os',w'=grow ((grow (W.drewN q) os).drewN q') os':=S.cmp (byWord_lays blk off d.size w0) rfl x y q os
end
theorem zAn:Tryz.prog.follows .mixedOrders=true:=by kernel_rfl
end
section
open Go.RowKit Go.Shelf Go.Lib Go.Sort Pm
set_option maxRecDepth 1000000
attribute [local go_sem ↓] exec_load_P exec_store_P
theorem swapRange_any(blk off n cap:Nat)(w0 w:World)(R:RowP w0 blk off n)(A X M Y B:List Pr)(S:SWK encP 2 w0 blk off (A++(X++(M++(Y++B)))).toArray w)(hn:(A++(X++(M++(Y++B)))).length=n)(hxy:X.length=Y.length)(a b c:Nat)(ha:a=A.length)(hb:b=A.length+X.length+M.length)(hc:c=X.length):
 Calls Tryz.prog 202 #[.slice (some ⟨blk,off,none⟩) n cap,.int .i64 a,.int .i64 b,.int .i64 c,.func (.func 136) #[] #[]] w fun e w'=>e = .returned (.tuple #[])∧SWK encP 2 w0 blk off (A++(Y++(M++(X++B)))).toArray w':=by
 have hbig:=R.big;have S0:Aside (SWK encP 2 w0 blk off (A++(X++(M++(Y++B)))).toArray w):=S;have hn':A.length+(X.length+(M.length+(Y.length+B.length)))=n:=by simpa using hn
 have HN:Hid (A.length+(X.length+(M.length+(Y.length+B.length)))=n):=hn';have HXY:Hid (X.length=Y.length):=hxy;have HA:Hid (a=A.length):=ha;have HB:Hid (b=A.length+X.length+M.length):=hb;have HC:Hid (c=X.length):=hc;have hbn:b+c≤n:=by omega
 have habn:a+c≤n:=by omega
 have mixed:=zAn;clear S hn hn' hxy ha hb hc;go_enter Tryz.func202,Tryz.ntmps202;go_wp2
 go_loopg [10] c (fun g s10 wr=>∃(i:Nat) (l:List Pr),s10 = .int .i64 i∧i≤c∧c-i≤g∧l.length=n∧Aside (SWK encP 2 w0 blk off l.toArray wr)∧Hid (l=A++(Y.take i++(X.drop i++(M++(X.take i++(Y.drop i++B)))))))
 case atStart=>exact⟨0,_,rfl,Nat.zero_le _,by omega,by simpa using HN.out,S0,by show _=_;simp⟩
 case round=>
  clear S0;obtain⟨i,l,rfl,hic,hg,hln,S1,HL⟩:=hrel;by_cases hlt:i<c
  · have hltz:(i:Int)<(c:Int):=by omega
    (have hX:i<X.length:=by have:=HC.out;omega);(have hY:i<Y.length:=by have:=HXY.out;omega);(have ea:((a:Int)+(i:Int)).toNat=a+i:=by omega);(have pa:(0:Int)≤(a:Int)+(i:Int):=by omega);(have ba:(a:Int)+(i:Int)<(n:Int):=by omega);(have ra:IntKind.i64.wrap ((a:Int)+(i:Int))=(a:Int)+(i:Int):=by rw[IntKind.wrap_i64];omega);(have ec:((b:Int)+(i:Int)).toNat=b+i:=by omega);(have pc:(0:Int)≤(b:Int)+(i:Int):=by omega);(have bc:(b:Int)+(i:Int)<(n:Int):=by omega);(have rc:IntKind.i64.wrap ((b:Int)+(i:Int))=(b:Int)+(i:Int):=by rw[IntKind.wrap_i64];omega);(have hs:l.toArray.size=n:=by simpa using hln);have S2:Aside (SWK encP 2 w0 blk off (swp l.toArray (a+i) (b+i)) ((wr.drew.setCells blk (off+(a+i)*2) (encP l.toArray[b+i]!)).setCells blk (off+(b+i)*2) (encP l.toArray[a+i]!))):=R.swapped S1.out hs (a+i) (b+i) (by omega) (by omega);have la:=R.ld1 S1.out hs (a+i) (by omega);have lb:=R.ld1 S1.out hs (b+i) (by omega);have sa:=R.st1 S1.out hs (a+i) (by omega) l.toArray[b+i]!;have sb:=R.st2 S1.out hs (a+i) (b+i) (by omega) (by omega) l.toArray[b+i]! l.toArray[a+i]!;have HSW:Hid (swp l.toArray (a+i) (b+i)=(A++(Y.take (i+1)++(X.drop (i+1)++(M++(X.take (i+1)++(Y.drop (i+1)++B)))))).toArray):=by
     show _=_;have e:l=(A++Y.take i)++X[i]::((X.drop (i+1)++(M++X.take i))++Y[i]::(Y.drop (i+1)++B)):=by
      rw[HL.out,List.drop_eq_getElem_cons hX,List.drop_eq_getElem_cons hY];simp only[List.append_assoc,List.cons_append]
     rw[zPw l _ _ _ _ _ (a+i) (b+i) e (by simp;have:=HA.out;omega) (by simp;have:=HB.out;have:=HXY.out;omega),List.take_succ_eq_append_getElem hX,List.take_succ_eq_append_getElem hY];simp only[List.append_assoc,List.cons_append,List.nil_append]
    generalize l.toArray[b+i]! = yI at S2 lb sa sb;generalize l.toArray[a+i]! = xI at S2 la sb;clear S1 hs hX hY;go_wp2_with fail
    go_big_region_o
    clear la lb sa sb;generalize (wr.drew.setCells blk (off+(a+i)*2) (encP yI)).setCells blk (off+(b+i)*2) (encP xI)=w2 at S2 ⊢;go_wp2;go_roundg (c-(i+1));(case measure=>omega);case rel=>exact⟨i+1,_,by go_num,by omega,Nat.le_refl _,by have:=HN.out;have:=HXY.out;have:=HC.out;simp;omega,HSW.out▸S2,rfl⟩
  · have hltz:¬(i:Int)<(c:Int):=by omega
    go_wp2
    go_end0
    have e:l=A++(Y++(M++(X++B))):=by
     (have h1:X.length≤i:=by have:=HC.out;omega);(have h2:Y.length≤i:=by have:=HXY.out;omega);rw[HL.out,List.take_of_length_le h1,List.take_of_length_le h2,List.drop_eq_nil_of_le h1,List.drop_eq_nil_of_le h2];simp
    exact⟨rfl,e▸S1.out⟩
end
section
open Go.RowKit Go.Shelf Go.Lib Go.Sort Pm
set_option maxRecDepth 1000000
theorem rotate_any(blk off n cap:Nat)(w0 w:World)(R:RowP w0 blk off n)(A X Y B:List Pr)(S:SWK encP 2 w0 blk off (A++(X++(Y++B))).toArray w)(hn:(A++(X++(Y++B))).length=n)(hx:0<X.length)(hy:0<Y.length)(a m b:Nat)(ha:a=A.length)(hm:m=A.length+X.length)(hb:b=A.length+X.length+Y.length):
 Calls Tryz.prog 196 #[.slice (some ⟨blk,off,none⟩) n cap,.int .i64 a,.int .i64 m,.int .i64 b,.func (.func 136) #[] #[]] w fun e w'=>e = .returned (.tuple #[])∧SWK encP 2 w0 blk off (A++(Y++(X++B))).toArray w':=by
 have hbig:=R.big;have hn':A.length+(X.length+(Y.length+B.length))=n:=by simpa using hn
 have HN:Hid (A.length+(X.length+(Y.length+B.length))=n):=hn';obtain⟨i0,hi0⟩:∃i,i=X.length:=⟨_,rfl⟩;obtain⟨j0,hj0⟩:∃i,i=Y.length:=⟨_,rfl⟩;have e1:(m:Int)-(a:Int)=(i0:Int):=by omega
 have e2:(b:Int)-(m:Int)=(j0:Int):=by omega
 have hmi:i0≤m:=by omega
 have hmj:m+j0≤n:=by omega
 have hi00:0<i0:=by omega
 have hj00:0<j0:=by omega
 have S0:Aside (SWK encP 2 w0 blk off (A++(X++(Y++B))).toArray w):=S;have HI:Hid (i0=X.length):=hi0;have HJ:Hid (j0=Y.length):=hj0;have HM:Hid (m=A.length+X.length):=hm;clear S hn hn' hx hy ha hm hb hi0 hj0;go_enter Tryz.func196,Tryz.ntmps196;go_wp2
 go_loopg [10,11] (i0+j0) (fun g s10 s11 wr=>∃(i j:Nat) (A' X' Y' B':List Pr),s10 = .int .i64 i∧s11 = .int .i64 j∧i≤m∧m+j≤n∧0<i∧0<j∧i+j≤g∧Aside (SWK encP 2 w0 blk off (A'++(X'++(Y'++B'))).toArray wr)∧Hid (i=X'.length∧j=Y'.length∧m=A'.length+X'.length∧(A'++(X'++(Y'++B'))).length=n∧A'++(Y'++(X'++B'))=A++(Y++(X++B))))
 case atStart=>exact⟨i0,j0,A,X,Y,B,rfl,rfl,hmi,hmj,hi00,hj00,Nat.le_refl _,S0,HI.out,HJ.out,HM.out,by have:=HN.out;simpa using this,rfl⟩
 case round=>
  clear S0;obtain⟨i,j,A',X',Y',B',rfl,rfl,him,hjn,hi,hj,hg,S1,H⟩:=hrel;have emi:(m:Int)-(i:Int)=((m-i:Nat):Int):=by omega
  by_cases heq:i=j
  · subst heq
    (have hc:=fun(W:World) (SW:SWK encP 2 w0 blk off (A'++(X'++(Y'++B'))).toArray W)=>swapRange_any blk off n cap w0 W R A' X' [] Y' B' SW H.out.2.2.2.1 (by have:=H.out;omega) (m-i) m i (by have:=H.out;omega) (by have:=H.out;simp;omega) H.out.1);go_wp2_with (go_at_call 202;refine(hc _ S1.out).mono ?_;rintro e w' ⟨rfl,S2⟩)
    go_end0
    exact⟨rfl,H.out.2.2.2.2▸S2⟩
  · have hne:((i:Int)==(j:Int))=false:=beq_eq_false_iff_ne.2 (by omega)
    by_cases hgt:j<i
    · have hgtz:(j:Int)<(i:Int):=by omega
      obtain⟨X1,X2,hX,hX1⟩:=zDw X' j (by have:=H.out;omega);(have eij:(i:Int)-(j:Int)=((i-j:Nat):Int):=by omega);(have hX2:Hid (X2.length=i-j):=by show _=_;have h:=H.out.1;rw[hX]at h;simp at h;omega);have HX1:Hid (X1.length=j):=hX1;have HXX:Hid (X'=X1++X2):=hX;(have hc:=fun(W:World) (SW:SWK encP 2 w0 blk off (A'++(X1++(X2++(Y'++B')))).toArray W)=>swapRange_any blk off n cap w0 W R A' X1 X2 Y' B' SW (by have:=H.out.2.2.2.1;rw[hX]at this;simpa using this) (by have:=H.out;omega) (m-i) m j (by have:=H.out;omega) (by have:=H.out;have:=hX2.out;omega) hX1.symm);have S1':Aside (SWK encP 2 w0 blk off (A'++(X1++(X2++(Y'++B')))).toArray wr):=by
       have:=S1.out;rw[hX,List.append_assoc]at this;exact this
      clear S1 hX hX1;go_wp2_with (go_at_call 202;refine(hc _ S1'.out).mono ?_;rintro e w' ⟨rfl,S2⟩);have S2':Aside (SWK encP 2 w0 blk off ((A'++Y')++(X2++(X1++B'))).toArray w'):=by
       have:=S2;rw[show A'++(Y'++(X2++(X1++B')))=(A'++Y')++(X2++(X1++B'))by simp]at this;exact this
      clear S2;go_roundg (i-j+j);case measure=>omega
      case rel=>
       refine⟨i-j,j,A'++Y',X2,X1,B',by rw[←eij],rfl,by omega,hjn,by omega,hj,Nat.le_refl _,S2',hX2.out.symm,HX1.out.symm,?_,?_,?_⟩
       · have:=H.out;have:=hX2.out;simp;omega
       · have h1:=H.out.2.2.2.1;have h2:=H.out;have h3:=hX2.out;have h4:=HX1.out;simp at h1 ⊢;omega
       · rw[←H.out.2.2.2.2,HXX.out];simp
    · have hgtz:¬(j:Int)<(i:Int):=by omega
      (have hlt:i<j:=by omega);obtain⟨Y1,Y2,hY,hY1⟩:=zDw Y' (j-i) (by have:=H.out;omega);(have eji:(j:Int)-(i:Int)=((j-i:Nat):Int):=by omega);(have emj:(m:Int)+(j:Int)-(i:Int)=((m+j-i:Nat):Int):=by omega);(have hY2:Hid (Y2.length=i):=by show _=_;have h:=H.out.2.1;rw[hY]at h;simp at h;omega);have HY1:Hid (Y1.length=j-i):=hY1;have HYY:Hid (Y'=Y1++Y2):=hY;(have hc:=fun(W:World) (SW:SWK encP 2 w0 blk off (A'++(X'++(Y1++(Y2++B')))).toArray W)=>swapRange_any blk off n cap w0 W R A' X' Y1 Y2 B' SW (by have:=H.out.2.2.2.1;rw[hY]at this;simpa using this) (by have:=H.out;have:=hY2.out;omega) (m-i) (m+j-i) i (by have:=H.out;omega) (by have:=H.out;omega) H.out.1);have S1':Aside (SWK encP 2 w0 blk off (A'++(X'++(Y1++(Y2++B')))).toArray wr):=by
       have:=S1.out;rw[hY,List.append_assoc Y1]at this;exact this
      clear S1 hY hY1;go_wp2_with (go_at_call 202;refine(hc _ S1'.out).mono ?_;rintro e w' ⟨rfl,S2⟩);have S2':Aside (SWK encP 2 w0 blk off (A'++(Y2++(Y1++(X'++B')))).toArray w'):=S2;clear S2;go_roundg (i+(j-i));case measure=>omega
      case rel=>
       refine⟨i,j-i,A',Y2,Y1,X'++B',rfl,by rw[←eji],him,by omega,hi,by omega,Nat.le_refl _,S2',hY2.out.symm,HY1.out.symm,?_,?_,?_⟩
       · have:=H.out;have:=hY2.out;omega
       · have h1:=H.out.2.2.2.1;have h2:=H.out;have h3:=hY2.out;have h4:=HY1.out;simp at h1 ⊢;omega
       · rw[←H.out.2.2.2.2,HYY.out];simp
set_option maxRecDepth 1000000
theorem lt_of_cf{x y:Pr}(h:zAa x.1 y.1=true):cfP x y<0:=by unfold cfP;rw[if_pos h];decide
theorem not_lt_of_cf{x y:Pr}(h:zAa x.1 y.1=false):¬cfP x y<0:=by
 unfold cfP;rw[h];cases zAa y.1 x.1<;>decide
theorem all_lt{R:List Pr}{u x:Pr}(h:Up zAa (R++[u]))(hu:zAa u.1 x.1=true):∀v∈R++[u],zAa v.1 x.1=true:=fun v hv=>
 up_lt lessB_sto (L:=[]) h (List.pairwise_singleton ..) hu v hv x (List.mem_singleton.2 rfl)
theorem all_ge{R:List Pr}{u x:Pr}(h:Up zAa (u::R))(hu:zAa u.1 x.1=false):∀v∈u::R,zAa v.1 x.1=false:=fun v hv=>
 up_le lessB_sto (L:=[]) (List.pairwise_singleton ..) h hu x (by simp) v hv
theorem all_le{R:List Pr}{u y:Pr}(h:Up zAa (R++[u]))(hu:zAa y.1 u.1=false):∀v∈R++[u],zAa y.1 v.1=false:=fun v hv=>
 up_le lessB_sto (R:=[]) h (List.pairwise_singleton ..) hu v hv y (List.mem_singleton.2 rfl)
theorem all_gt{R:List Pr}{u y:Pr}(h:Up zAa (u::R))(hu:zAa y.1 u.1=true):∀v∈u::R,zAa y.1 v.1=true:=fun v hv=>
 up_lt lessB_sto (R:=[]) (List.pairwise_singleton ..) h hu y (by simp) v hv
theorem up_left{a b:List Pr}(h:Up zAa (a++b)):Up zAa a:=(List.pairwise_append.1 h).1
theorem up_right{a b:List Pr}(h:Up zAa (a++b)):Up zAa b:=(List.pairwise_append.1 h).2.1
theorem part_at(P L S:List Pr)(i:Nat)(h1:P.length≤i)(h2:i≤P.length+L.length):∃L1 L2,L=L1++L2∧P.length+L1.length=i ∧
 (0<L1.length→∃a u,L1=a++[u]∧(P++(L++S)).toArray[i-1]! = u)∧(0<L2.length→∃u b,L2=u::b∧(P++(L++S)).toArray[i]! = u):=by
 obtain⟨L1,L2,rfl,hl⟩:=zDw L (i-P.length) (by omega);refine⟨L1,L2,rfl,by omega,fun h=>?_,fun h=>?_⟩
 · obtain⟨a,u,rfl⟩:=zHc L1 h
   exact⟨a,u,rfl,Pm.get_at _ (P++a) (L2++S) u (i-1) (by simp) (by simp at hl ⊢;omega)⟩
 · cases L2 with
   |nil=>simp at h
   |cons u b=>exact⟨u,b,rfl,Pm.get_at _ (P++L1) (b++S) u i (by simp) (by simp at hl ⊢;omega)⟩
end
section
open Go.RowKit Go.Shelf Go.Lib Go.Sort Pm
set_option maxRecDepth 1000000
attribute [local go_sem ↓] exec_load_P exec_store_P
theorem symMerge_one(blk off n cap:Nat)(w0 w:World)(R:RowP w0 blk off n)(A Q B:List Pr)(x:Pr)(S:SWK encP 2 w0 blk off (A++x::(Q++B)).toArray w)(hn:(A++x::(Q++B)).length=n)(hQ:Up zAa Q)(a m b:Nat)(ha:a=A.length)(hm:m=a+1)(hb:b=m+Q.length):
 Calls Tryz.prog 181 #[.slice (some ⟨blk,off,none⟩) n cap,.int .i64 a,.int .i64 m,.int .i64 b,.func (.func 136) #[] #[]] w fun e w'=>e = .returned (.tuple #[])∧∃X,Stably zAa (x::Q) X∧SWK encP 2 w0 blk off (A++(X++B)).toArray w':=by
 have hbig:=R.big;have mixed:=zAn;have eg:∀args w,(callFunc 136 args).run Tryz.prog w = .ok (.enter 136 args) w:=enters_of Tryz.func136 (by kernel_rfl) rfl;have hn':A.length+(Q.length+B.length+1)=n:=by simpa using hn
 have hbn:b≤n:=by omega
 have han:a<n:=by omega
 have hmb:m≤b:=by omega
 have ema:(m:Int)-(a:Int)=1:=by omega
 have hxa:(A++x::(Q++B)).toArray[a]! = x:=Pm.get_at _ A (Q++B) x a rfl ha;have HPT:Hid (∀i,m≤i→i≤b→∃L1 L2,Q=L1++L2∧m+L1.length=i∧(0<L1.length→∃a' u,L1=a'++[u]∧(A++x::(Q++B)).toArray[i-1]! = u)∧(0<L2.length→∃u b',L2=u::b'∧(A++x::(Q++B)).toArray[i]! = u)):=by
  show ∀i,_;intro i h1 h2;obtain⟨L1,L2,g1,g2,g3,g4⟩:=part_at (A++[x]) Q B i (by simp;omega) (by simp;omega);rw[show A++[x]++(Q++B)=A++x::(Q++B)by simp]at g3 g4;exact⟨L1,L2,g1,by simp at g2;omega,g3,g4⟩
 have S0:Aside (SWK encP 2 w0 blk off (A++x::(Q++B)).toArray w):=S;have HN:Hid ((A++x::(Q++B)).length=n):=hn;have HQ:Hid (Up zAa Q):=hQ;have HA:Hid (a=A.length):=ha;have HM:Hid (m=a+1):=hm;have HB:Hid (b=m+Q.length):=hb;have HXA:Hid ((A++x::(Q++B)).toArray[a]! = x):=hxa;have HL:Hid ((A++x::(Q++B)).toArray.size=n):=by show _=_;simpa using hn
 obtain⟨d,hd⟩:∃d:Array Pr,(A++x::(Q++B)).toArray=d:=⟨_,rfl⟩;have HD:Hid ((A++x::(Q++B)).toArray=d):=hd;rw[hd]at S0 HXA HL HPT;have hma1:m≤n:=by omega
 clear S hn hn' hQ ha hm hb hxa hd;go_enter Tryz.func181,Tryz.ntmps181;go_wp2
 go_loopg [10,11] (b-m) (fun g s10 s11 wr=>∃(i j:Nat),s10 = .int .i64 i∧s11 = .int .i64 j∧m≤i∧i≤j∧j≤b∧j-i≤g∧Aside (SWK encP 2 w0 blk off d wr)∧Hid ((i=m∨zAa d[i-1]!.1 x.1=true)∧(j=b∨zAa d[j]!.1 x.1=false)))
 case atStart=>exact⟨m,b,rfl,rfl,Nat.le_refl _,hmb,Nat.le_refl _,Nat.le_refl _,S0,.inl rfl,.inl rfl⟩
 case round=>
  clear S0;obtain⟨i,j,rfl,rfl,hmi,hij,hjb,hg,S1,H⟩:=hrel;by_cases hlt:i<j
  · have hltz:(i:Int)<(j:Int):=by omega
    obtain⟨h,hh⟩:∃h,h=(i+j)/2:=⟨_,rfl⟩;(have ehz:((i:Int)+(j:Int))/2=(h:Int):=by omega);(have hih:i≤h:=by omega);(have hhj:h<j:=by omega);have HH:Hid (h=(i+j)/2):=hh;clear hh;(have rh:IntKind.i64.wrap (h:Int)=(h:Int):=by rw[IntKind.wrap_i64];omega);(have ph:(0:Int)≤(h:Int):=by omega);(have bh:(h:Int)<(n:Int):=by omega);(have eh:(h:Int).toNat=h:=by omega);(have pa:(0:Int)≤(a:Int):=by omega);(have ba:(a:Int)<(n:Int):=by omega);(have ea:(a:Int).toNat=a:=by omega);have lh:=R.ld S1.out HL.out h (by omega);have la:=R.ld S1.out HL.out a (by omega);rw[HXA.out]at la;obtain⟨y,hy⟩:∃y,d[h]! = y:=⟨_,rfl⟩;rw[hy]at lh;have HY:Hid (d[h]! = y):=hy;clear hy;have hcm:=RowP.cmp S1.out y x;cases hv:zAa y.1 x.1
    · have hv1:¬cfP y x<0:=not_lt_of_cf hv
      have hv2:decide (cfP y x<0)=false:=decide_eq_false hv1;have HV:Hid (zAa y.1 x.1=false):=hv;clear hv;go_wp2_with fail
      go_quiet_grown (first|(go_at_fn 136;refine Calls.grown_of (hcm _ _))|(go_at_call 136;refine Calls.grown_of (hcm _ _)))
      have S2:Aside (SWK encP 2 w0 blk off d (grow (wr.drewN nq) osq)):=S1.out.grown nq osq;clear lh la hcm S1;generalize grow (wr.drewN nq) osq=w2 at S2 ⊢;go_wp2;go_roundg (h-i);(case measure=>omega);case rel=>exact⟨i,h,rfl,rfl,hmi,hih,by omega,Nat.le_refl _,S2,H.out.1,.inr (by rw[HY.out];exact HV.out)⟩
    · have hv1:cfP y x<0:=lt_of_cf hv
      have hv2:decide (cfP y x<0)=true:=decide_eq_true hv1;have HV:Hid (zAa y.1 x.1=true):=hv;clear hv;go_wp2_with fail
      go_quiet_grown (first|(go_at_fn 136;refine Calls.grown_of (hcm _ _))|(go_at_call 136;refine Calls.grown_of (hcm _ _)))
      have S2:Aside (SWK encP 2 w0 blk off d (grow (wr.drewN nq) osq)):=S1.out.grown nq osq;clear lh la hcm S1;generalize grow (wr.drewN nq) osq=w2 at S2 ⊢;go_wp2;go_roundg (j-(h+1));(case measure=>omega);case rel=>exact⟨h+1,j,by go_num,rfl,by omega,by omega,hjb,Nat.le_refl _,S2,.inr (by rw[Nat.add_sub_cancel,HY.out];exact HV.out),H.out.2⟩
  · have hltz:¬(i:Int)<(j:Int):=by omega
    (obtain rfl:i=j:=by omega);obtain⟨Q1,Q2,hq,hl1,hq1,hq2⟩:=HPT.out i hmi hjb;have HQ1:Hid (∀v∈Q1,zAa v.1 x.1=true):=by
     show ∀v∈Q1,_;rcases Nat.eq_zero_or_pos Q1.length with h0|h0
     · rw[List.eq_nil_of_length_eq_zero h0];intro v hv;cases hv
     · obtain⟨a',u,e1,e2⟩:=hq1 h0
       rcases H.out.1 with h1|h1
       · omega
       · rw[e1]
         rw[e2]at h1;have hup:=HQ.out;rw[hq,e1]at hup;exact all_lt (up_left hup) h1
    have HQ2:Hid (∀v∈Q2,zAa v.1 x.1=false):=by
     show ∀v∈Q2,_;rcases Nat.eq_zero_or_pos Q2.length with h0|h0
     · rw[List.eq_nil_of_length_eq_zero h0];intro v hv;cases hv
     · obtain⟨u,b',e1,e2⟩:=hq2 h0
       rcases H.out.2 with h1|h1
       · exfalso
         have hm2:=HB.out;rw[hq,List.length_append]at hm2;omega
       · rw[e1]
         rw[e2]at h1;have hup:=HQ.out;rw[hq,e1]at hup;exact all_ge (up_right hup) h1
    have HQQ:Hid (Q=Q1++Q2):=hq;have S1':Aside (SWK encP 2 w0 blk off (A++([]++x::(Q1++(Q2++B)))).toArray wr):=by
     have h:=S1.out;rw[←HD.out,hq,List.append_assoc Q1]at h;exact h
    have HL1:Hid (m+Q1.length=i):=hl1;(have hai:a+1≤i:=by have:=HM.out;omega);clear S1 hq hl1 hq1 hq2 H HPT HXA;go_wp2
    go_loopg [13] Q1.length (fun g s13 wr=>∃(k:Nat) (U V:List Pr),s13 = .int .i64 k∧a≤k∧k+1≤i∧i-k≤g+1∧Aside (SWK encP 2 w0 blk off (A++(U++x::(V++(Q2++B)))).toArray wr)∧Hid (Q1=U++V∧k=a+U.length))
    case atStart=>exact⟨a,[],Q1,rfl,Nat.le_refl _,hai,by have:=HL1.out;have:=HM.out;omega,S1',rfl,rfl⟩
    case round=>
     clear S1';obtain⟨k,U,V,rfl,hak,hki,hg2,S1,H2⟩:=hrel;(have ei1:(i:Int)-1=((i-1:Nat):Int):=by omega);(have hiz:IntKind.i64.wrap ((i-1:Nat):Int)=((i-1:Nat):Int):=by rw[IntKind.wrap_i64];omega);by_cases hk:k<i-1
     · have hkz:(k:Int)<((i-1:Nat):Int):=by omega
       have hVn:V≠[]:=by
        intro e;have h1:=H2.out.1;have h2:=HL1.out;have h3:=H2.out.2;have h4:=HM.out;rw[h1,e]at h2;simp at h2;omega
       obtain⟨v,V',hV⟩:∃v V',V=v::V':=by
        cases V with
        |nil=>exact absurd rfl hVn
        |cons v V'=>exact⟨v,V',rfl⟩
       have HV:Hid (V=v::V'):=hV;clear hVn hV;have hs:(A++(U++x::(V++(Q2++B)))).toArray.size=n:=by
        have h1:=HN.out;rw[HQQ.out,H2.out.1]at h1;simp at h1 ⊢;omega
       (have ek:(k:Int).toNat=k:=by omega);(have pk:(0:Int)≤(k:Int):=by omega);(have bk:(k:Int)<(n:Int):=by omega);(have rk:IntKind.i64.wrap (k:Int)=(k:Int):=by rw[IntKind.wrap_i64];omega);(have ek1:((k:Int)+1).toNat=k+1:=by omega);(have pk1:(0:Int)≤(k:Int)+1:=by omega);(have bk1:(k:Int)+1<(n:Int):=by omega);(have rk1:IntKind.i64.wrap ((k:Int)+1)=(k:Int)+1:=by rw[IntKind.wrap_i64];omega);have S2:=R.swapped S1.out hs k (k+1) (by omega) (by omega);have lk:=R.ld1 S1.out hs k (by omega);have lk1:=R.ld1 S1.out hs (k+1) (by omega);have sk:=R.st1 S1.out hs k (by omega) (A++(U++x::(V++(Q2++B)))).toArray[k+1]!;have sk1:=R.st2 S1.out hs k (k+1) (by omega) (by omega) (A++(U++x::(V++(Q2++B)))).toArray[k+1]! (A++(U++x::(V++(Q2++B)))).toArray[k]!;(have el:A++(U++x::(V++(Q2++B)))=(A++U)++x::([]++v::(V'++(Q2++B))):=by rw[HV.out];simp);have HSW:Hid (swp (A++(U++x::(V++(Q2++B)))).toArray k (k+1)=(A++((U++[v])++x::(V'++(Q2++B)))).toArray):=by
        show _=_;rw[zPw _ _ _ _ _ _ k (k+1) el (by have:=H2.out.2;have:=HA.out;simp;omega) (by have:=H2.out.2;have:=HA.out;simp;omega)];simp
       rw[HSW.out]at S2;have HS2:Aside _:=S2;clear S2 hs el;generalize (A++(U++x::(V++(Q2++B)))).toArray[k+1]! = y1 at HS2 lk1 sk sk1;generalize (A++(U++x::(V++(Q2++B)))).toArray[k]! = y0 at HS2 lk sk1;clear S1;go_wp2_with fail
       go_big_region_o
       clear lk lk1 sk sk1;generalize (wr.drew.setCells blk (off+k*2) (encP y1)).setCells blk (off+(k+1)*2) (encP y0)=w2 at HS2 ⊢;go_wp2;go_roundg (i-(k+1)-1);(case measure=>omega);case rel=>exact⟨k+1,U++[v],V',by go_num,by omega,by omega,by omega,HS2,by rw[H2.out.1,HV.out];simp,by have:=H2.out.2;simp;omega⟩
     · have hkz:¬(k:Int)<((i-1:Nat):Int):=by omega
       go_wp2
       (try simp only[Exit.inBlock,Exit.then]);refine bodyPost_ret (results_none rfl _ _ _) rfl ?_
       refine⟨rfl,Q1++x::Q2,?_,?_⟩
       · have:=insert_left lessB_sto (x:=x) (a:=Q1) (b:=Q2) (by rw[←HQQ.out];exact HQ.out) HQ1.out HQ2.out
         rw[HQQ.out];exact this
       · have h1:=H2.out.1
         have h2:=HL1.out;have h3:=H2.out.2;have h4:=HM.out;have hV:V=[]:=List.eq_nil_of_length_eq_zero (by rw[h1]at h2;simp at h2;omega);have h:=S1.out;rw[hV]at h h1;simp at h1;rw[h1];simpa using h
end
