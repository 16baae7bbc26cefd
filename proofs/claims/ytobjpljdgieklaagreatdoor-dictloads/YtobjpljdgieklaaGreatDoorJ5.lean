import Derived.Test.YtobjpljdgieklaaGreatDoorJ4
set_option maxRecDepth 100000
set_option maxHeartbeats 8000000
namespace Go.Proofs.YtobjpljdgieklaaGreatDoor
namespace Fm
structure Arc where
 label:Int
 out:Int
 to:Nat
deriving DecidableEq
structure St where
 final:Bool
 out:Int
 arcs:List Arc
deriving DecidableEq
abbrev En:=List Int×Int
def zAs(m:Int):List En→Int
 |[]=>m
 |e::r=>zAs (if e.2<m then e.2 else m) r
def least:List En→Int
 |[]=>0
 |e::r=>zAs e.2 (e::r)
def hd(e:En):Int:=e.1.headD 0
def tl(e:En):En:=(e.1.tail,e.2)
def lead(c:Int):List En→Nat
 |[]=>0
 |e::r=>if hd e=c then lead c r+1 else 0
def grp:List En→List (Int×List En)
 |[]=>[]
 |e::r=>match grp r with
  |[]=>[(hd e,[tl e])]
  |(c,G)::gs=>if hd e=c then (c,tl e::G)::gs else (hd e,[tl e])::(c,G)::gs
def zCv:List En→Bool
 |([],_)::_=>true
 |_=>false
def zAi:List En→List En
 |([],_)::r=>r
 |S=>S
def zCh(S:List En):Int:=match S with
 |([],n)::_=>n-least S
 |_=>0
def zDe(b:List St)(s:St):List St×Nat:=if s∈b then (b,b.idxOf s)else (b++[s],b.length)
def arF(st:List St→List En→List St×Nat)(base:Int):List St→List (Int×List En)→List St×List Arc
 |b,[]=>(b,[])
 |b,(c,G)::r=>((arF st base (st b G).1 r).1,⟨c,least G-base,(st b G).2⟩::(arF st base (st b G).1 r).2)
def stF:Nat→List St→List En→List St×Nat
 |0,b,_=>(b,0)
 |f+1,b,S=>zDe (arF (stF f) (least S) b (grp (zAi S))).1 ⟨zCv S,zCh S,(arF (stF f) (least S) b (grp (zAi S))).2⟩
def cut(k:Nat)(l:List En):List En:=l.map fun e=>(e.1.drop k,e.2)
def bulk(l:List En):Nat:=(l.map fun e=>e.1.length+1).sum
theorem zK8(l:List En):cut 0 l=l:=by simp[cut]
theorem zC2(k:Nat)(e:En)(l:List En):cut k (e::l)=(e.1.drop k,e.2)::cut k l:=rfl
theorem zOy(k:Nat)(l:List En):(cut k l).length=l.length:=by simp[cut]
theorem zK9(k n:Nat)(l:List En):cut k (l.take n)=(cut k l).take n:=by simp[cut,List.map_take]
theorem zHd(k n:Nat)(l:List En):cut k (l.drop n)=(cut k l).drop n:=by simp[cut,List.map_drop]
theorem cut_tl(k:Nat)(l:List En):cut (k+1) l=(cut k l).map tl:=by
 simp only[cut,List.map_map];refine List.map_congr_left fun e _=>?_
 simp[tl,List.tail_drop]
theorem zJi(k:Nat):∀(l:List En) (m:Int),zAs m (cut k l)=zAs m l
 |[],_=>rfl
 |e::r,m=>by rw[zC2,zAs,zAs,zJi k r]
theorem zFs(k:Nat)(l:List En):least (cut k l)=least l:=by
 cases l with
 |nil=>rfl
 |cons e r=>rw[zC2,least,least,←zC2,zJi]
theorem zVh(c:Int):∀l:List En,lead c l≤l.length
 |[]=>Nat.le_refl _
 |e::r=>by
  rw[lead]
  split
  · simp[zVh c r]
  · simp
theorem zC1(e:En)(r:List En):grp (e::r)=(hd e,((e::r).take (lead (hd e) r+1)).map tl)::grp ((e::r).drop (lead (hd e) r+1)):=by
 induction r generalizing e with
 |nil=>rfl
 |cons e' r ih=>
  rw[grp,ih e'];simp only;by_cases h:hd e=hd e'
  · rw[if_pos h,lead,if_pos h.symm]
    simp[h]
  · rw[if_neg h,lead,if_neg (fun e=>h e.symm)]
    show _=(hd e,[tl e])::grp (e'::r);rw[ih e']
theorem zMp:∀(l:List En) (m:Int),zAs m l≤m
 |[],_=>Int.le_refl _
 |e::r,m=>by
  rw[zAs];have:=zMp r (if e.2<m then e.2 else m);by_cases h:e.2<m
  · rw[if_pos h]at this ⊢;omega
  · rw[if_neg h]at this ⊢;omega
theorem zJh:∀(l:List En) (m:Int),zAs m l=m∨∃e∈l,e.2=zAs m l
 |[],_ => .inl rfl
 |e::r,m=>by
  rw[zAs];rcases zJh r (if e.2<m then e.2 else m)with h|⟨x,hx,h⟩
  · split at h
    · rename_i hlt
      rw[if_pos hlt];exact .inr ⟨e,by simp,h.symm⟩
    · rename_i hlt
      rw[if_neg hlt];exact .inl h
  · exact .inr ⟨x,by simp[hx],h⟩
theorem zJj:∀(l:List En) (m:Int),∀e∈l,zAs m l≤e.2
 |x::r,m,e,h=>by
  rw[zAs];rcases List.mem_cons.1 h with rfl|h
  · have:=zMp r (if e.2<m then e.2 else m)
    by_cases h:e.2<m
    · rw[if_pos h]at this ⊢;omega
    · rw[if_neg h]at this ⊢;omega
  · exact zJj r _ e h
theorem zCb{l:List En}{e:En}(h:e∈l):least l≤e.2:=by
 cases l with
 |nil=>cases h
 |cons x r=>exact zJj _ _ e h
theorem zB1{l:List En}(h:l≠[]):∃e∈l,e.2=least l:=by
 cases l with
 |nil=>exact absurd rfl h
 |cons x r=>
  rcases zJh (x::r) x.2 with h|h
  · exact⟨x,by simp,h.symm⟩
  · exact h
end Fm
section
open Go.RowKit Nums
theorem zQx:(Tryz.prog.info? 21).map (fun i=>(i.zero,i.size,i.bytes))=some (some (.int .i32 0),1,4):=by kernel_rfl
def Made(B:Nat)(w:World)(v:Value)(xs:List Int):Prop:=w.ownsRow B 21 1 v xs.length (xs.map (Value.int .i32))
theorem Made.below{B:Nat}{w w':World}{v:Value}{xs:List Int}(h:Made B w v xs)(hb:Below w.heap.size w w'):Made B w' v xs:=by
 obtain⟨hl,hn|⟨g,cap,cur,rfl,h1,hg,h2⟩⟩:=h
 · exact⟨hl,.inl hn⟩
 · exact⟨hl,.inr ⟨g,cap,cur,rfl,h1,(hb.block g (Array.getElem?_eq_some_iff.1 hg).1).trans hg,h2⟩⟩
theorem zRc(w:World)(r:Int):(w.alloc (Obj.cells #[Value.int .i32 r] 21)).cell? ⟨w.heap.size,0,none⟩=some (.int .i32 r):=by simp
theorem zF4(s:ByteArray)(w:World)(ht:Tabs w)(hm:s.size≤9223372036854775807)(hroom:Room s.data.toList):
 Calls Tryz.prog 71 #[.string s] w fun e w'=>∃v,Below w.heap.size w w' ∧
  ((rs s.data.toList=none∧v = .slice none 0 0∧e = .returned (.tuple #[v,.bool false])) ∨
   ∃xs,rs s.data.toList=some xs∧e = .returned (.tuple #[v,.bool true])∧Made w.heap.size w' v xs):=by
 obtain⟨i0,hi,hz0,hz1,hz2⟩:=info_parts zQx;go_enter Tryz.func71,Tryz.ntmps71;go_wp2
 go_loopw [0,4] (fun t v wr=>∃(m:ByteArray) (pre:List Int),t = .string m∧m.size+pre.length≤s.size∧Made w.heap.size wr v pre∧zAz s.data.toList m.data.toList pre∧Below w.heap.size w wr)
  (fun t _ _=>zSh t)
 case atStart=>exact⟨s,[],rfl,by simp,World.ownsRow_nil _ _ _ _,zGj _,Below.refl _ _⟩
 case round=>
  obtain⟨m,pre,rfl,hms,hown,hL,hbel⟩:=hrel;have HL:Hid (zAz s.data.toList m.data.toList pre):=hL;clear hL;have htr:Tabs wr:=ht.below hbel;by_cases h0:0<m.size
  · have hne:=zEl h0
    have hbd:=zR6 hne;rw[zAj]at hbd;have HNE:Hid (m.data.toList≠[]):=hne;clear hne;generalize hr:rd m.data.toList=q at hbd;obtain⟨r,n⟩:=q;have HR:Hid (rd m.data.toList=(r,n)):=hr;clear hr;simp only at hbd;by_cases hn:n=0
    · subst hn
      have HF:Hid (rs s.data.toList=none):=zHz HL.out HNE.out (by rw[HR.out]);go_wp2_with (go_at_call 93;refine(zBs _ _ htr h0 (by omega)).mono ?_;rintro e w' ⟨rfl,n2,rfl⟩;rw[HR.out]);go_ret2;exact⟨_,below_drewN hbel _,.inl ⟨HF.out,rfl,rfl⟩⟩
    have hn0:((n:Int)==0)=false:=beq_eq_false_iff_ne.2 (by omega);have hrm:pre.length+1≤35184372088832:=hroom m.data.toList pre HL.out (by rw[zAj,zAj];exact hms) HNE.out (by rw[HR.out];exact hn)
    go_wp2_with (first
     |(go_at_call 93;refine(zBs _ _ htr h0 (by omega)).mono ?_;rintro e w' ⟨rfl,n2,rfl⟩;rw[HR.out])
     |(at_builtin;refine wpList_append_own _ rfl _ _ 122 rfl w.heap.size 21 i0 (.int .i32 0) 1 4 Tryz.underlying122 hi hz0 hz1 hz2 rfl (by decide) _ _ _ rfl (World.ownsRow.alloc (w:=wr.drewN _) hown _) ⟨wr.heap.size,0,none⟩ 1 1 [.int .i32 r] rfl rfl ?c1 ?c2 ?c3 ?c4 ?c5 ?_))
    case c1=>
     intro j u hj
     match j,hj with
     |0,hj=>simp at hj;subst hj;exact zRc (wr.drewN n2) r
    (case c2=>intro u hu;simp at hu;subst hu;rfl);(case c3=>unfold maxLen;omega);(case c4=>omega);(case c5=>have:=hbel.size;simp;omega);intro v' w1 hown' hgrow _;(have hown2:Made w.heap.size w1 v' (pre++[r]):=by unfold Made;simpa using hown');have hb1:Below w.heap.size w w1:=((below_drewN hbel n2).alloc (by simpa using hbel.size) _).grown hgrow (by have:=hbel.size;simp;omega) (fun k hk=>(World.ownsRow.lt hown k hk).1);clear hown' hgrow hown;go_wp2
    go_roundw
    (case rel=>exact⟨m.extract n m.size,pre++[r],rfl,by rw[zBt];simp;omega,hown2,zOc HL.out HNE.out HR.out hn,hb1⟩);case measure=>simp only[zSh];rw[zBt];omega
  · have HN:Hid (m.data.toList=[]):=zE2 h0
    have HF:Hid (rs s.data.toList=some pre):=zKx (by have:=HL.out;rw[HN.out]at this;exact this);go_wp2;go_ret2;exact⟨_,hbel,.inr ⟨pre,HF.out,rfl,hown⟩⟩
end
namespace Fm
def Ok:Nat→List En→Prop
 |0,_=>False
 |f+1,S=>S≠[]∧(∀e∈zAi S,e.1≠[])∧∀p∈grp (zAi S),Ok f p.2
theorem zEe(e:En)(l:List En):bulk (e::l)=e.1.length+1+bulk l:=by simp[bulk]
theorem zIe(a b:List En):bulk (a++b)=bulk a+bulk b:=by simp[bulk]
theorem zO8:∀l:List En,(∀e∈l,e.1≠[])→bulk (l.map tl)+l.length=bulk l
 |[],_=>rfl
 |e::r,h=>by
  have ih:=zO8 r fun x hx=>h x (by simp[hx])
  have he:0<e.1.length:=List.length_pos_iff.2 (h e (by simp));rw[List.map_cons,zEe,zEe,List.length_cons];have:(tl e).1.length=e.1.length-1:=by simp[tl]
  omega
def zO7(gs:List (Int×List En)):Nat:=(gs.map fun p=>bulk p.2).sum
theorem zJr(p:Int×List En)(gs:List (Int×List En)):zO7 (p::gs)=bulk p.2+zO7 gs:=by simp[zO7]
theorem zNg:∀(n:Nat) (l:List En),l.length≤n→(∀e∈l,e.1≠[])→zO7 (grp l)+l.length=bulk l
 |_,[],_,_=>rfl
 |0,e::r,h,_=>by simp at h
 |n+1,e::r,h,hne=>by
  rw[zC1,zJr];simp only;have ih:=zNg n ((e::r).drop (lead (hd e) r+1)) (by rw[List.length_drop];simp at h ⊢;omega) (fun x hx=>hne x (List.mem_of_mem_drop hx));have h1:=zO8 ((e::r).take (lead (hd e) r+1)) (fun x hx=>hne x (List.mem_of_mem_take hx));have h2:=zIe ((e::r).take (lead (hd e) r+1)) ((e::r).drop (lead (hd e) r+1));rw[List.take_append_drop]at h2;have h3:((e::r).take (lead (hd e) r+1)).length+((e::r).drop (lead (hd e) r+1)).length=(e::r).length:=by rw[←List.length_append,List.take_append_drop]
  omega
theorem rest_bulk{S:List En}(h:S≠[])(hne:∀e∈zAi S,e.1≠[]):zO7 (grp (zAi S))+1≤bulk S:=by
 have h1:=zNg _ (zAi S) (Nat.le_refl _) hne;cases S with
 |nil=>exact absurd rfl h
 |cons e r=>
  obtain⟨x,n⟩:=e;cases x with
  |nil=>
   have h2:zAi (([],n)::r)=r:=rfl;rw[h2]at h1 ⊢;rw[zEe];simp;omega
  |cons c t=>
   have h2:zAi ((c::t,n)::r)=(c::t,n)::r:=rfl;rw[h2]at h1 ⊢;simp only[List.length_cons]at h1;omega
theorem zUp(b:List St)(s:St):b<+:(zDe b s).1:=by
 unfold zDe
 split
 · exact List.prefix_refl _
 · exact List.prefix_append _ _
theorem zUq(b:List St)(s:St):(zDe b s).1.length≤b.length+1∧(zDe b s).2<(zDe b s).1.length∧(zDe b s).1[(zDe b s).2]?=some s:=by
 unfold zDe
 split
 · rename_i h
   have:=List.idxOf_lt_length_of_mem h;exact⟨by simp,by simpa using this,by rw[List.getElem?_eq_getElem this,List.getElem_idxOf]⟩
 · exact⟨by simp,by simp,by simp⟩
theorem zNj{f:Nat}{base:Int}(ih:∀b S,Ok f S→b<+:(stF f b S).1∧(stF f b S).1.length≤b.length+bulk S∧(stF f b S).2<(stF f b S).1.length):
 ∀(gs:List (Int×List En)) (b:List St),(∀p∈gs,Ok f p.2)→b<+:(arF (stF f) base b gs).1∧(arF (stF f) base b gs).1.length≤b.length+zO7 gs
 |[],b,_=>⟨List.prefix_refl _,by simp[arF,zO7]⟩
 |(c,G)::r,b,h=>by
  obtain⟨h1,h2,_⟩:=ih b G (h (c,G) (by simp));obtain⟨h4,h5⟩:=zNj ih r (stF f b G).1 (fun p hp=>h p (by simp[hp]));rw[arF,zJr];exact⟨h1.trans h4,by simp only;omega⟩
theorem zFi:∀(f:Nat) (b:List St) (S:List En),Ok f S→b<+:(stF f b S).1∧(stF f b S).1.length≤b.length+bulk S∧(stF f b S).2<(stF f b S).1.length
 |0,_,_,h=>h.elim
 |f+1,b,S,⟨h0,h1,h2⟩=>by
  obtain⟨p1,p2⟩:=zNj (base:=least S) (zFi f) (grp (zAi S)) b h2;have p3:=rest_bulk h0 h1;have p4:=zUq (arF (stF f) (least S) b (grp (zAi S))).1 ⟨zCv S,zCh S,(arF (stF f) (least S) b (grp (zAi S))).2⟩;rw[stF];exact⟨p1.trans (zUp _ _),by omega,p4.2.1⟩
theorem grp_step{k:Nat}{T:List En}{e:En}(h:T[0]?=some e):
 grp (cut k T)=(hd (e.1.drop k,e.2),cut (k+1) (T.take (1+lead (hd (e.1.drop k,e.2)) (cut k (T.drop 1)))))::grp (cut k (T.drop (1+lead (hd (e.1.drop k,e.2)) (cut k (T.drop 1))))):=by
 cases T with
 |nil=>simp at h
 |cons x r=>
  simp only[List.getElem?_cons_zero,Option.some.injEq]at h;subst h;rw[zC2,zC1,cut_tl,zK9,zHd,zC2];simp only[List.drop_succ_cons,List.drop_zero,Nat.add_comm 1];rw[zHd]
theorem zW9{k n:Nat}{T:List En}(h:∀e∈cut k T,e.1≠[])(hn:n≤T.length):bulk (cut (k+1) (T.take n))+n+bulk (cut k (T.drop n))=bulk (cut k T):=by
 have h1:=zO8 (cut k (T.take n)) (fun x hx=>h x (by rw[zK9]at hx;exact List.mem_of_mem_take hx));rw[←cut_tl,zOy,List.length_take,Nat.min_eq_left hn]at h1;rw[h1,←zIe,zK9,zHd,List.take_append_drop]
theorem fin_cut{k:Nat}{l:List En}{e:En}(h:l[0]?=some e)(hk:k≤e.1.length):(e.1.length=k→zCv (cut k l)=true∧zAi (cut k l)=cut k (l.drop 1)∧zCh (cut k l)=e.2-least l)∧(e.1.length≠k→zCv (cut k l)=false∧zAi (cut k l)=cut k l∧zCh (cut k l)=0):=by
 cases l with
 |nil=>simp at h
 |cons x r=>
  simp only[List.getElem?_cons_zero,Option.some.injEq]at h;subst h;have hl:=zFs k (x::r);rw[zC2]at hl ⊢;constructor
  · intro he
    rw[List.drop_of_length_le (by omega)]at hl ⊢;exact⟨rfl,rfl,by simp only[zCh];rw[hl]⟩
  · intro he
    cases hd:x.1.drop k with
    |nil=>rw[List.drop_eq_nil_iff]at hd;omega
    |cons c t=>exact⟨rfl,rfl,rfl⟩
theorem zKy{l:List En}{lo hi:Int}(h:l≠[])(hw:∀e∈l,lo≤e.2∧e.2≤hi):lo≤least l∧least l≤hi:=by
 obtain⟨e,he,h1⟩:=zB1 h;rw[←h1];exact hw e he
end Fm
section
open Go.RowKit Nums
theorem zGz(r:Int)(w:World)(ht:Tabs w):Calls Tryz.prog 194 #[.int .i32 r] w fun e w'=>e = .returned (.int .i64 (sz r))∧w'=w:=by
 obtain⟨_,_,_,_,_,t2,t3,t4⟩:=ht;go_enter Tryz.func194,Tryz.ntmps194;go_wp2
 go_loop [3] (fun n=>∃k:Nat,1≤k∧k≤4∧n = .int .i64 k∧(2≤k→128≤r)∧(3≤k→2048≤r)∧(4≤k→65536≤r)) (fun n=>4-(intOf n).toNat)
 case atStart=>exact⟨1,by omega,by omega,rfl,by omega,by omega,by omega⟩
 case round=>
  obtain⟨k,hk1,hk4,rfl,g2,g3,g4⟩:=hrel;obtain rfl|rfl|rfl|rfl:k=1∨k=2∨k=3∨k=4:=by omega
  · by_cases h:128≤r
    · go_wp2
      go_round
      (case rel=>exact⟨2,by omega,by omega,rfl,by omega,by omega,by omega⟩);case measure=>simp[intOf]
    · go_wp2
      go_ret;exact⟨zBy (by unfold sz;repeat' split;all_goals omega),rfl⟩
  · by_cases h:2048≤r
    · go_wp2
      go_round
      (case rel=>exact⟨3,by omega,by omega,rfl,by omega,by omega,by omega⟩);case measure=>simp[intOf]
    · go_wp2
      go_ret;exact⟨zBy (by unfold sz;repeat' split;all_goals omega),rfl⟩
  · by_cases h:65536≤r
    · go_wp2
      go_round
      (case rel=>exact⟨4,by omega,by omega,rfl,by omega,by omega,by omega⟩);case measure=>simp[intOf]
    · go_wp2
      go_ret;exact⟨zBy (by unfold sz;repeat' split;all_goals omega),rfl⟩
  · go_wp2
    go_ret;exact⟨zBy (by unfold sz;repeat' split;all_goals omega),rfl⟩
theorem zFu:(Tryz.prog.info? 5).map (fun i=>(i.zero,i.size,i.bytes))=some (some (.int .u8 0),1,1):=by kernel_rfl
def Bytes(B:Nat)(w:World)(v:Value)(xs:List Int):Prop:=w.ownsRow B 5 1 v xs.length (xs.map (Value.int .u8))
theorem zNo(B:Nat)(vb:Value)(xs:List Int)(r:Int)(w:World)(ht:Tabs w)(hown:Bytes B w vb xs)(hB:B≤w.heap.size)(hl:xs.length+4≤140737488355328)(h0:0≤r)(h1:r<128):
 Calls Tryz.prog 176 #[vb,.int .i32 r] w fun e w'=>∃v',e = .returned v'∧Bytes B w' v' (xs++[r])∧Below B w w':=by
 have HS:Hid (sz r=1):=sz1 h0 h1;obtain⟨i0,hi,hz0,hz1,hz2⟩:=info_parts zFu;obtain⟨c2,c3,c4,c1,t1,t2,t3,t4⟩:=id ht;have b2:=zAp c2;have htA:∀o,Tabs (w.alloc o):=fun o=>ht.below ((Below.refl _ _).alloc (Nat.le_refl _) o)
 have HTA:Hid (∀o,Tabs (w.alloc o)):=htA;clear htA;go_enter Tryz.func176,Tryz.ntmps176;go_wp2_with (first|(go_at_call 194;refine(zGz _ _ (HTA.out _)).mono ?_;rintro e w' ⟨rfl,rfl⟩;rw[HS.out]));refine wp_loop_rounds 1 ?_;rw[rounds_succ];go_wp2_with (at_builtin;refine wpList_append_own _ rfl _ _ 68 rfl B 5 i0 (.int .u8 0) 1 1 Tryz.underlying68 hi hz0 hz1 hz2 rfl (by decide) _ _ _ rfl (World.ownsRow.alloc hown _) ⟨w.heap.size,0,none⟩ 1 4 [.int .u8 (r)] rfl rfl ?c1 ?c2 ?c3 ?c4 ?c5 ?_)
 case c1=>
  intro j u hj
  match j,hj with
  |0,hj=>simp at hj;subst hj;simp[Addr.add]
 case c2=>intro u hu;simp at hu;subst hu;rfl
 case c3=>unfold maxLen;omega
 case c4=>omega
 case c5=>simp;omega
 intro v' w1 hown' hgrow _;have hb:Below B w w1:=((Below.refl B w).alloc hB _).grown hgrow (by simp;omega) (fun k hk=>(World.ownsRow.lt hown k hk).1);have hown2:Bytes B w1 v' (xs++[r]):=by unfold Bytes;simpa using hown'
 clear hown' hgrow hown;go_wp2;go_ret;exact⟨_,rfl,hown2,hb⟩
theorem zNn(B:Nat)(vb:Value)(xs:List Int)(r:Int)(w:World)(ht:Tabs w)(hown:Bytes B w vb xs)(hB:B≤w.heap.size)(hl:xs.length+4≤140737488355328)(h0:128≤r)(h1:r<2048):
 Calls Tryz.prog 176 #[vb,.int .i32 r] w fun e w'=>∃v',e = .returned v'∧Bytes B w' v' (xs++[192+r/64,128+r%64])∧Below B w w':=by
 have HS:Hid (sz r=2):=sz2 h0 h1;obtain⟨i0,hi,hz0,hz1,hz2⟩:=info_parts zFu;obtain⟨c2,c3,c4,c1,t1,t2,t3,t4⟩:=id ht;have b2:=zAp c2;have htA:∀o,Tabs (w.alloc o):=fun o=>ht.below ((Below.refl _ _).alloc (Nat.le_refl _) o)
 have HTA:Hid (∀o,Tabs (w.alloc o)):=htA;clear htA;go_enter Tryz.func176,Tryz.ntmps176;go_wp2_with (first|(go_at_call 194;refine(zGz _ _ (HTA.out _)).mono ?_;rintro e w' ⟨rfl,rfl⟩;rw[HS.out]));refine wp_loop_rounds 2 ?_;rw[rounds_succ];go_wp2;rw[rounds_succ];go_wp2_with (at_builtin;refine wpList_append_own _ rfl _ _ 68 rfl B 5 i0 (.int .u8 0) 1 1 Tryz.underlying68 hi hz0 hz1 hz2 rfl (by decide) _ _ _ rfl (World.ownsRow.alloc hown _) ⟨w.heap.size,0,none⟩ 2 4 [.int .u8 (192+r/64),.int .u8 (128+r%64)] rfl rfl ?c1 ?c2 ?c3 ?c4 ?c5 ?_)
 case c1=>
  intro j u hj
  match j,hj with
  |0,hj=>simp at hj;subst hj;simp[Addr.add]
  |1,hj=>simp at hj;subst hj;simp[Addr.add]
 case c2=>intro u hu;simp at hu;rcases hu with rfl|rfl<;>rfl
 case c3=>unfold maxLen;omega
 case c4=>omega
 case c5=>simp;omega
 intro v' w1 hown' hgrow _;have hb:Below B w w1:=((Below.refl B w).alloc hB _).grown hgrow (by simp;omega) (fun k hk=>(World.ownsRow.lt hown k hk).1);have hown2:Bytes B w1 v' (xs++[192+r/64,128+r%64]):=by unfold Bytes;simpa using hown'
 clear hown' hgrow hown;go_wp2;go_ret;exact⟨_,rfl,hown2,hb⟩
theorem zNm(B:Nat)(vb:Value)(xs:List Int)(r:Int)(w:World)(ht:Tabs w)(hown:Bytes B w vb xs)(hB:B≤w.heap.size)(hl:xs.length+4≤140737488355328)(h0:2048≤r)(h1:r<65536):
 Calls Tryz.prog 176 #[vb,.int .i32 r] w fun e w'=>∃v',e = .returned v'∧Bytes B w' v' (xs++[224+r/64/64,128+r/64%64,128+r%64])∧Below B w w':=by
 have HS:Hid (sz r=3):=sz3 h0 h1;obtain⟨i0,hi,hz0,hz1,hz2⟩:=info_parts zFu;obtain⟨c2,c3,c4,c1,t1,t2,t3,t4⟩:=id ht;have b2:=zAp c2;have htA:∀o,Tabs (w.alloc o):=fun o=>ht.below ((Below.refl _ _).alloc (Nat.le_refl _) o)
 have HTA:Hid (∀o,Tabs (w.alloc o)):=htA;clear htA;go_enter Tryz.func176,Tryz.ntmps176;go_wp2_with (first|(go_at_call 194;refine(zGz _ _ (HTA.out _)).mono ?_;rintro e w' ⟨rfl,rfl⟩;rw[HS.out]));refine wp_loop_rounds 3 ?_;rw[rounds_succ];go_wp2;rw[rounds_succ];go_wp2;rw[rounds_succ];go_wp2_with (at_builtin;refine wpList_append_own _ rfl _ _ 68 rfl B 5 i0 (.int .u8 0) 1 1 Tryz.underlying68 hi hz0 hz1 hz2 rfl (by decide) _ _ _ rfl (World.ownsRow.alloc hown _) ⟨w.heap.size,0,none⟩ 3 4 [.int .u8 (224+r/64/64),.int .u8 (128+r/64%64),.int .u8 (128+r%64)] rfl rfl ?c1 ?c2 ?c3 ?c4 ?c5 ?_)
 case c1=>
  intro j u hj
  match j,hj with
  |0,hj=>simp at hj;subst hj;simp[Addr.add]
  |1,hj=>simp at hj;subst hj;simp[Addr.add]
  |2,hj=>simp at hj;subst hj;simp[Addr.add]
 case c2=>intro u hu;simp at hu;rcases hu with rfl|rfl|rfl<;>rfl
 case c3=>unfold maxLen;omega
 case c4=>omega
 case c5=>simp;omega
 intro v' w1 hown' hgrow _;have hb:Below B w w1:=((Below.refl B w).alloc hB _).grown hgrow (by simp;omega) (fun k hk=>(World.ownsRow.lt hown k hk).1);have hown2:Bytes B w1 v' (xs++[224+r/64/64,128+r/64%64,128+r%64]):=by unfold Bytes;simpa using hown'
 clear hown' hgrow hown;go_wp2;go_ret;exact⟨_,rfl,hown2,hb⟩
theorem zNl(B:Nat)(vb:Value)(xs:List Int)(r:Int)(w:World)(ht:Tabs w)(hown:Bytes B w vb xs)(hB:B≤w.heap.size)(hl:xs.length+4≤140737488355328)(h0:65536≤r)(h1:r<1114112):
 Calls Tryz.prog 176 #[vb,.int .i32 r] w fun e w'=>∃v',e = .returned v'∧Bytes B w' v' (xs++[240+r/64/64/64,128+r/64/64%64,128+r/64%64,128+r%64])∧Below B w w':=by
 have HS:Hid (sz r=4):=sz4 h0 h1;obtain⟨i0,hi,hz0,hz1,hz2⟩:=info_parts zFu;obtain⟨c2,c3,c4,c1,t1,t2,t3,t4⟩:=id ht;have b2:=zAp c2;have htA:∀o,Tabs (w.alloc o):=fun o=>ht.below ((Below.refl _ _).alloc (Nat.le_refl _) o)
 have HTA:Hid (∀o,Tabs (w.alloc o)):=htA;clear htA;go_enter Tryz.func176,Tryz.ntmps176;go_wp2_with (first|(go_at_call 194;refine(zGz _ _ (HTA.out _)).mono ?_;rintro e w' ⟨rfl,rfl⟩;rw[HS.out]));refine wp_loop_rounds 4 ?_;rw[rounds_succ];go_wp2;rw[rounds_succ];go_wp2;rw[rounds_succ];go_wp2;rw[rounds_succ];go_wp2_with (at_builtin;refine wpList_append_own _ rfl _ _ 68 rfl B 5 i0 (.int .u8 0) 1 1 Tryz.underlying68 hi hz0 hz1 hz2 rfl (by decide) _ _ _ rfl (World.ownsRow.alloc hown _) ⟨w.heap.size,0,none⟩ 4 4 [.int .u8 (240+r/64/64/64),.int .u8 (128+r/64/64%64),.int .u8 (128+r/64%64),.int .u8 (128+r%64)] rfl rfl ?c1 ?c2 ?c3 ?c4 ?c5 ?_)
 case c1=>
  intro j u hj
  match j,hj with
  |0,hj=>simp at hj;subst hj;simp[Addr.add]
  |1,hj=>simp at hj;subst hj;simp[Addr.add]
  |2,hj=>simp at hj;subst hj;simp[Addr.add]
  |3,hj=>simp at hj;subst hj;simp[Addr.add]
 case c2=>intro u hu;simp at hu;rcases hu with rfl|rfl|rfl|rfl<;>rfl
 case c3=>unfold maxLen;omega
 case c4=>omega
 case c5=>simp;omega
 intro v' w1 hown' hgrow _;have hb:Below B w w1:=((Below.refl B w).alloc hB _).grown hgrow (by simp;omega) (fun k hk=>(World.ownsRow.lt hown k hk).1);have hown2:Bytes B w1 v' (xs++[240+r/64/64/64,128+r/64/64%64,128+r/64%64,128+r%64]):=by unfold Bytes;simpa using hown'
 clear hown' hgrow hown;go_wp2;go_ret;exact⟨_,rfl,hown2,hb⟩
theorem zIy(B:Nat)(vb:Value)(xs:List Int)(r:Int)(w:World)(ht:Tabs w)(hown:Bytes B w vb xs)(hB:B≤w.heap.size)(hl:xs.length+4≤140737488355328)(h0:0≤r)(h1:r<1114112):
 Calls Tryz.prog 176 #[vb,.int .i32 r] w fun e w'=>∃v',e = .returned v'∧Bytes B w' v' (xs++wrI r)∧Below B w w':=by
 by_cases a:r<128
 · rw[wrI1 a];exact zNo B vb xs r w ht hown hB hl h0 a
 by_cases b:r<2048
 · rw[wrI2 (by omega) b];exact zNn B vb xs r w ht hown hB hl (by omega) b
 by_cases c:r<65536
 · rw[wrI3 (by omega) c];exact zNm B vb xs r w ht hown hB hl (by omega) c
 · rw[wrI4 (by omega)];exact zNl B vb xs r w ht hown hB hl (by omega) h1
end
