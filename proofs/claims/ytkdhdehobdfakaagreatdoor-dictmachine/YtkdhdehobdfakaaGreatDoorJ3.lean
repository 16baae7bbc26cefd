import Derived.Test.YtkdhdehobdfakaaGreatDoorJ2
import Derived.Laws.BytesArg
import Derived.Deep.RegionHeld3
import Derived.Deep.DrawnRows
set_option maxRecDepth 100000
set_option maxHeartbeats 8000000
namespace Go.Proofs.YtkdhdehobdfakaaGreatDoor
namespace Fm
structure Arc where
 label:Int
 out:Int
 to:Nat
deriving DecidableEq
structure St where
 final:Bool
 out:Int
 arcs:List Arc
deriving DecidableEq
abbrev En:=List Int×Int
def zAv(m:Int):List En→Int
 |[]=>m
 |e::r=>zAv (if e.2<m then e.2 else m) r
def least:List En→Int
 |[]=>0
 |e::r=>zAv e.2 (e::r)
def hd(e:En):Int:=e.1.headD 0
def tl(e:En):En:=(e.1.tail,e.2)
def lead(c:Int):List En→Nat
 |[]=>0
 |e::r=>if hd e=c then lead c r+1 else 0
def grp:List En→List (Int×List En)
 |[]=>[]
 |e::r=>match grp r with
  |[]=>[(hd e,[tl e])]
  |(c,G)::gs=>if hd e=c then (c,tl e::G)::gs else (hd e,[tl e])::(c,G)::gs
def zCw:List En→Bool
 |([],_)::_=>true
 |_=>false
def zAj:List En→List En
 |([],_)::r=>r
 |S=>S
def zCi(S:List En):Int:=match S with
 |([],n)::_=>n-least S
 |_=>0
def zDg(b:List St)(s:St):List St×Nat:=if s∈b then (b,b.idxOf s)else (b++[s],b.length)
def arF(st:List St→List En→List St×Nat)(base:Int):List St→List (Int×List En)→List St×List Arc
 |b,[]=>(b,[])
 |b,(c,G)::r=>((arF st base (st b G).1 r).1,⟨c,least G-base,(st b G).2⟩::(arF st base (st b G).1 r).2)
def stF:Nat→List St→List En→List St×Nat
 |0,b,_=>(b,0)
 |f+1,b,S=>zDg (arF (stF f) (least S) b (grp (zAj S))).1 ⟨zCw S,zCi S,(arF (stF f) (least S) b (grp (zAj S))).2⟩
def cut(k:Nat)(l:List En):List En:=l.map fun e=>(e.1.drop k,e.2)
def bulk(l:List En):Nat:=(l.map fun e=>e.1.length+1).sum
theorem zLs(l:List En):cut 0 l=l:=by simp[cut]
theorem zC2(k:Nat)(e:En)(l:List En):cut k (e::l)=(e.1.drop k,e.2)::cut k l:=rfl
theorem zPn(k:Nat)(l:List En):(cut k l).length=l.length:=by simp[cut]
theorem zLt(k n:Nat)(l:List En):cut k (l.take n)=(cut k l).take n:=by simp[cut,List.map_take]
theorem zHo(k n:Nat)(l:List En):cut k (l.drop n)=(cut k l).drop n:=by simp[cut,List.map_drop]
theorem cut_tl(k:Nat)(l:List En):cut (k+1) l=(cut k l).map tl:=by
 simp only[cut,List.map_map];refine List.map_congr_left fun e _=>?_
 simp[tl,List.tail_drop]
theorem zJz(k:Nat):∀(l:List En) (m:Int),zAv m (cut k l)=zAv m l
 |[],_=>rfl
 |e::r,m=>by rw[zC2,zAv,zAv,zJz k r]
theorem zF1(k:Nat)(l:List En):least (cut k l)=least l:=by
 cases l with
 |nil=>rfl
 |cons e r=>rw[zC2,least,least,←zC2,zJz]
theorem zWi(c:Int):∀l:List En,lead c l≤l.length
 |[]=>Nat.le_refl _
 |e::r=>by
  rw[lead]
  split
  · simp[zWi c r]
  · simp
theorem zC1(e:En)(r:List En):grp (e::r)=(hd e,((e::r).take (lead (hd e) r+1)).map tl)::grp ((e::r).drop (lead (hd e) r+1)):=by
 induction r generalizing e with
 |nil=>rfl
 |cons e' r ih=>
  rw[grp,ih e'];simp only;by_cases h:hd e=hd e'
  · rw[if_pos h,lead,if_pos h.symm]
    simp[h]
  · rw[if_neg h,lead,if_neg (fun e=>h e.symm)]
    show _=(hd e,[tl e])::grp (e'::r);rw[ih e']
theorem zNe:∀(l:List En) (m:Int),zAv m l≤m
 |[],_=>Int.le_refl _
 |e::r,m=>by
  rw[zAv];have:=zNe r (if e.2<m then e.2 else m);by_cases h:e.2<m
  · rw[if_pos h]at this ⊢;omega
  · rw[if_neg h]at this ⊢;omega
theorem zJy:∀(l:List En) (m:Int),zAv m l=m∨∃e∈l,e.2=zAv m l
 |[],_ => .inl rfl
 |e::r,m=>by
  rw[zAv];rcases zJy r (if e.2<m then e.2 else m)with h|⟨x,hx,h⟩
  · split at h
    · rename_i hlt
      rw[if_pos hlt];exact .inr ⟨e,by simp,h.symm⟩
    · rename_i hlt
      rw[if_neg hlt];exact .inl h
  · exact .inr ⟨x,by simp[hx],h⟩
theorem zJ0:∀(l:List En) (m:Int),∀e∈l,zAv m l≤e.2
 |x::r,m,e,h=>by
  rw[zAv];rcases List.mem_cons.1 h with rfl|h
  · have:=zNe r (if e.2<m then e.2 else m)
    by_cases h:e.2<m
    · rw[if_pos h]at this ⊢;omega
    · rw[if_neg h]at this ⊢;omega
  · exact zJ0 r _ e h
theorem zCb{l:List En}{e:En}(h:e∈l):least l≤e.2:=by
 cases l with
 |nil=>cases h
 |cons x r=>exact zJ0 _ _ e h
theorem zBz{l:List En}(h:l≠[]):∃e∈l,e.2=least l:=by
 cases l with
 |nil=>exact absurd rfl h
 |cons x r=>
  rcases zJy (x::r) x.2 with h|h
  · exact⟨x,by simp,h.symm⟩
  · exact h
end Fm
section
open Go.RowKit Nums
theorem zRm:(Tryz.prog.info? 21).map (fun i=>(i.zero,i.size,i.bytes))=some (some (.int .i32 0),1,4):=by kernel_rfl
def Made(B:Nat)(w:World)(v:Value)(xs:List Int):Prop:=w.ownsRow B 21 1 v xs.length (xs.map (Value.int .i32))
theorem Made.below{B:Nat}{w w':World}{v:Value}{xs:List Int}(h:Made B w v xs)(hb:Below w.heap.size w w'):Made B w' v xs:=by
 obtain⟨hl,hn|⟨g,cap,cur,rfl,h1,hg,h2⟩⟩:=h
 · exact⟨hl,.inl hn⟩
 · exact⟨hl,.inr ⟨g,cap,cur,rfl,h1,(hb.block g (Array.getElem?_eq_some_iff.1 hg).1).trans hg,h2⟩⟩
theorem zR2(w:World)(r:Int):(w.alloc (Obj.cells #[Value.int .i32 r] 21)).cell? ⟨w.heap.size,0,none⟩=some (.int .i32 r):=by simp
theorem zGe(s:ByteArray)(w:World)(ht:Tabs w)(hm:s.size≤9223372036854775807)(hroom:Room s.data.toList):
 Calls Tryz.prog 73 #[.string s] w fun e w'=>∃v,Below w.heap.size w w' ∧
  ((rs s.data.toList=none∧v = .slice none 0 0∧e = .returned (.tuple #[v,.bool false])) ∨
   ∃xs,rs s.data.toList=some xs∧e = .returned (.tuple #[v,.bool true])∧Made w.heap.size w' v xs):=by
 obtain⟨i0,hi,hz0,hz1,hz2⟩:=info_parts zRm;go_enter Tryz.func73,Tryz.ntmps73;go_wp2
 go_loopw [0,4] (fun t v wr=>∃(m:ByteArray) (pre:List Int),t = .string m∧m.size+pre.length≤s.size∧Made w.heap.size wr v pre∧zA0 s.data.toList m.data.toList pre∧Below w.heap.size w wr)
  (fun t _ _=>zTa t)
 case atStart=>exact⟨s,[],rfl,by simp,World.ownsRow_nil _ _ _ _,zGt _,Below.refl _ _⟩
 case round=>
  obtain⟨m,pre,rfl,hms,hown,hL,hbel⟩:=hrel;have HL:Hid (zA0 s.data.toList m.data.toList pre):=hL;clear hL;have htr:Tabs wr:=ht.below hbel;by_cases h0:0<m.size
  · have hne:=zEr h0
    have hbd:=zSz hne;rw[zAk]at hbd;have HNE:Hid (m.data.toList≠[]):=hne;clear hne;generalize hr:rd m.data.toList=q at hbd;obtain⟨r,n⟩:=q;have HR:Hid (rd m.data.toList=(r,n)):=hr;clear hr;simp only at hbd;by_cases hn:n=0
    · subst hn
      have HF:Hid (rs s.data.toList=none):=zIa HL.out HNE.out (by rw[HR.out]);go_wp2_with (go_at_call 52;refine(zBr _ _ htr h0 (by omega)).mono ?_;rintro e w' ⟨rfl,n2,rfl⟩;rw[HR.out]);go_ret2;exact⟨_,below_drewN hbel _,.inl ⟨HF.out,rfl,rfl⟩⟩
    have hn0:((n:Int)==0)=false:=beq_eq_false_iff_ne.2 (by omega);have hrm:pre.length+1≤35184372088832:=hroom m.data.toList pre HL.out (by rw[zAk,zAk];exact hms) HNE.out (by rw[HR.out];exact hn)
    go_wp2_with (first
     |(go_at_call 52;refine(zBr _ _ htr h0 (by omega)).mono ?_;rintro e w' ⟨rfl,n2,rfl⟩;rw[HR.out])
     |(at_builtin;refine wpList_append_own _ rfl _ _ 104 rfl w.heap.size 21 i0 (.int .i32 0) 1 4 Tryz.underlying104 hi hz0 hz1 hz2 rfl (by decide) _ _ _ rfl (World.ownsRow.alloc (w:=wr.drewN _) hown _) ⟨wr.heap.size,0,none⟩ 1 1 [.int .i32 r] rfl rfl ?c1 ?c2 ?c3 ?c4 ?c5 ?_))
    case c1=>
     intro j u hj
     match j,hj with
     |0,hj=>simp at hj;subst hj;exact zR2 (wr.drewN n2) r
    (case c2=>intro u hu;simp at hu;subst hu;rfl);(case c3=>unfold maxLen;omega);(case c4=>omega);(case c5=>have:=hbel.size;simp;omega);intro v' w1 hown' hgrow _;(have hown2:Made w.heap.size w1 v' (pre++[r]):=by unfold Made;simpa using hown');have hb1:Below w.heap.size w w1:=((below_drewN hbel n2).alloc (by simpa using hbel.size) _).grown hgrow (by have:=hbel.size;simp;omega) (fun k hk=>(World.ownsRow.lt hown k hk).1);clear hown' hgrow hown;go_wp2
    go_roundw
    (case rel=>exact⟨m.extract n m.size,pre++[r],rfl,by rw[zBs];simp;omega,hown2,zO1 HL.out HNE.out HR.out hn,hb1⟩);case measure=>simp only[zTa];rw[zBs];omega
  · have HN:Hid (m.data.toList=[]):=zE9 h0
    have HF:Hid (rs s.data.toList=some pre):=zLh (by have:=HL.out;rw[HN.out]at this;exact this);go_wp2;go_ret2;exact⟨_,hbel,.inr ⟨pre,HF.out,rfl,hown⟩⟩
end
namespace Fm
def Ok:Nat→List En→Prop
 |0,_=>False
 |f+1,S=>S≠[]∧(∀e∈zAj S,e.1≠[])∧∀p∈grp (zAj S),Ok f p.2
theorem zEk(e:En)(l:List En):bulk (e::l)=e.1.length+1+bulk l:=by simp[bulk]
theorem zIs(a b:List En):bulk (a++b)=bulk a+bulk b:=by simp[bulk]
theorem zPw:∀l:List En,(∀e∈l,e.1≠[])→bulk (l.map tl)+l.length=bulk l
 |[],_=>rfl
 |e::r,h=>by
  have ih:=zPw r fun x hx=>h x (by simp[hx])
  have he:0<e.1.length:=List.length_pos_iff.2 (h e (by simp));rw[List.map_cons,zEk,zEk,List.length_cons];have:(tl e).1.length=e.1.length-1:=by simp[tl]
  omega
def zPv(gs:List (Int×List En)):Nat:=(gs.map fun p=>bulk p.2).sum
theorem zKa(p:Int×List En)(gs:List (Int×List En)):zPv (p::gs)=bulk p.2+zPv gs:=by simp[zPv]
theorem zN1:∀(n:Nat) (l:List En),l.length≤n→(∀e∈l,e.1≠[])→zPv (grp l)+l.length=bulk l
 |_,[],_,_=>rfl
 |0,e::r,h,_=>by simp at h
 |n+1,e::r,h,hne=>by
  rw[zC1,zKa];simp only;have ih:=zN1 n ((e::r).drop (lead (hd e) r+1)) (by rw[List.length_drop];simp at h ⊢;omega) (fun x hx=>hne x (List.mem_of_mem_drop hx));have h1:=zPw ((e::r).take (lead (hd e) r+1)) (fun x hx=>hne x (List.mem_of_mem_take hx));have h2:=zIs ((e::r).take (lead (hd e) r+1)) ((e::r).drop (lead (hd e) r+1));rw[List.take_append_drop]at h2;have h3:((e::r).take (lead (hd e) r+1)).length+((e::r).drop (lead (hd e) r+1)).length=(e::r).length:=by rw[←List.length_append,List.take_append_drop]
  omega
theorem rest_bulk{S:List En}(h:S≠[])(hne:∀e∈zAj S,e.1≠[]):zPv (grp (zAj S))+1≤bulk S:=by
 have h1:=zN1 _ (zAj S) (Nat.le_refl _) hne;cases S with
 |nil=>exact absurd rfl h
 |cons e r=>
  obtain⟨x,n⟩:=e;cases x with
  |nil=>
   have h2:zAj (([],n)::r)=r:=rfl;rw[h2]at h1 ⊢;rw[zEk];simp;omega
  |cons c t=>
   have h2:zAj ((c::t,n)::r)=(c::t,n)::r:=rfl;rw[h2]at h1 ⊢;simp only[List.length_cons]at h1;omega
theorem zVq(b:List St)(s:St):b<+:(zDg b s).1:=by
 unfold zDg
 split
 · exact List.prefix_refl _
 · exact List.prefix_append _ _
theorem zVr(b:List St)(s:St):(zDg b s).1.length≤b.length+1∧(zDg b s).2<(zDg b s).1.length∧(zDg b s).1[(zDg b s).2]?=some s:=by
 unfold zDg
 split
 · rename_i h
   have:=List.idxOf_lt_length_of_mem h;exact⟨by simp,by simpa using this,by rw[List.getElem?_eq_getElem this,List.getElem_idxOf]⟩
 · exact⟨by simp,by simp,by simp⟩
theorem zN4{f:Nat}{base:Int}(ih:∀b S,Ok f S→b<+:(stF f b S).1∧(stF f b S).1.length≤b.length+bulk S∧(stF f b S).2<(stF f b S).1.length):
 ∀(gs:List (Int×List En)) (b:List St),(∀p∈gs,Ok f p.2)→b<+:(arF (stF f) base b gs).1∧(arF (stF f) base b gs).1.length≤b.length+zPv gs
 |[],b,_=>⟨List.prefix_refl _,by simp[arF,zPv]⟩
 |(c,G)::r,b,h=>by
  obtain⟨h1,h2,_⟩:=ih b G (h (c,G) (by simp));obtain⟨h4,h5⟩:=zN4 ih r (stF f b G).1 (fun p hp=>h p (by simp[hp]));rw[arF,zKa];exact⟨h1.trans h4,by simp only;omega⟩
theorem zFp:∀(f:Nat) (b:List St) (S:List En),Ok f S→b<+:(stF f b S).1∧(stF f b S).1.length≤b.length+bulk S∧(stF f b S).2<(stF f b S).1.length
 |0,_,_,h=>h.elim
 |f+1,b,S,⟨h0,h1,h2⟩=>by
  obtain⟨p1,p2⟩:=zN4 (base:=least S) (zFp f) (grp (zAj S)) b h2;have p3:=rest_bulk h0 h1;have p4:=zVr (arF (stF f) (least S) b (grp (zAj S))).1 ⟨zCw S,zCi S,(arF (stF f) (least S) b (grp (zAj S))).2⟩;rw[stF];exact⟨p1.trans (zVq _ _),by omega,p4.2.1⟩
theorem grp_step{k:Nat}{T:List En}{e:En}(h:T[0]?=some e):
 grp (cut k T)=(hd (e.1.drop k,e.2),cut (k+1) (T.take (1+lead (hd (e.1.drop k,e.2)) (cut k (T.drop 1)))))::grp (cut k (T.drop (1+lead (hd (e.1.drop k,e.2)) (cut k (T.drop 1))))):=by
 cases T with
 |nil=>simp at h
 |cons x r=>
  simp only[List.getElem?_cons_zero,Option.some.injEq]at h;subst h;rw[zC2,zC1,cut_tl,zLt,zHo,zC2];simp only[List.drop_succ_cons,List.drop_zero,Nat.add_comm 1];rw[zHo]
theorem zYe{k n:Nat}{T:List En}(h:∀e∈cut k T,e.1≠[])(hn:n≤T.length):bulk (cut (k+1) (T.take n))+n+bulk (cut k (T.drop n))=bulk (cut k T):=by
 have h1:=zPw (cut k (T.take n)) (fun x hx=>h x (by rw[zLt]at hx;exact List.mem_of_mem_take hx));rw[←cut_tl,zPn,List.length_take,Nat.min_eq_left hn]at h1;rw[h1,←zIs,zLt,zHo,List.take_append_drop]
theorem fin_cut{k:Nat}{l:List En}{e:En}(h:l[0]?=some e)(hk:k≤e.1.length):(e.1.length=k→zCw (cut k l)=true∧zAj (cut k l)=cut k (l.drop 1)∧zCi (cut k l)=e.2-least l)∧(e.1.length≠k→zCw (cut k l)=false∧zAj (cut k l)=cut k l∧zCi (cut k l)=0):=by
 cases l with
 |nil=>simp at h
 |cons x r=>
  simp only[List.getElem?_cons_zero,Option.some.injEq]at h;subst h;have hl:=zF1 k (x::r);rw[zC2]at hl ⊢;constructor
  · intro he
    rw[List.drop_of_length_le (by omega)]at hl ⊢;exact⟨rfl,rfl,by simp only[zCi];rw[hl]⟩
  · intro he
    cases hd:x.1.drop k with
    |nil=>rw[List.drop_eq_nil_iff]at hd;omega
    |cons c t=>exact⟨rfl,rfl,rfl⟩
theorem zLi{l:List En}{lo hi:Int}(h:l≠[])(hw:∀e∈l,lo≤e.2∧e.2≤hi):lo≤least l∧least l≤hi:=by
 obtain⟨e,he,h1⟩:=zBz h;rw[←h1];exact hw e he
end Fm
namespace Nums
def u8(n:Int):UInt8:=UInt8.ofNat n.toNat
def wr(r:Int):List UInt8:=(wrI r).map u8
theorem zD1{x:Int}(h0:0≤x)(h:x<256):((u8 x).toNat:Int)=x:=by
 unfold u8;rw[UInt8.toNat_ofNat_of_lt' (by show x.toNat<256;omega)];omega
theorem zKl(b:UInt8){x:Int}(h:x=(b.toNat:Int)):u8 x=b:=by
 subst h;unfold u8;simp
theorem zLx(b:UInt8)(l:List UInt8):bt (b::l) 0=(b.toNat:Int):=rfl
theorem zGy(b:UInt8)(l:List UInt8)(i:Nat):bt (b::l) (i+1)=bt l i:=rfl
theorem zMc(r:Int):(wr r).length=(wrI r).length:=by simp[wr]
theorem rd_wr{r:Int}(h:isR r=true)(t:List UInt8):rd (wr r++t)=(r,(wrI r).length):=by
 have hb:=of_decide_eq_true h;by_cases a:r<128
 · have e:wr r=[u8 r]:=by unfold wr;rw[wrI1 a];rfl
   have v:=zD1 (x:=r) (by omega) (by omega);rw[e,wrI1 a,rd_one (by show((u8 r).toNat:Int)<128;omega)];show(((u8 r).toNat:Int),1)=_;rw[v];rfl
 by_cases b:r<2048
 · have e:wr r=[u8 (192+r/64),u8 (128+r%64)]:=by unfold wr;rw[wrI2 (by omega) b];rfl
   have v0:=zD1 (x:=192+r/64) (by omega) (by omega);have v1:=zD1 (x:=128+r%64) (by omega) (by omega);rw[e,wrI2 (by omega) b];generalize hl:[u8 (192+r/64),u8 (128+r%64)]++t=l;(have b0:bt l 0=192+r/64:=by rw[←hl];exact v0);(have b1:bt l 1=128+r%64:=by rw[←hl];exact v1);(have hn:2≤l.length:=by rw[←hl];simp);have ha:acc (ldOf 2) l 2=r:=by show acc 192 l 2=r;rw[acc2,b0,b1];omega
   rw[zQy (n:=2) (by omega) (by omega) (by rw[b0];unfold ldSz;rw[if_neg (by omega),if_neg (by omega),if_pos (by omega)];rfl) hn
    (fun j x y => by obtain rfl : j = 1 := by omega
                     rw[b1];omega) (by rw[ha];show(128:Int)≤r;omega) (by rw[ha];exact h),ha]
   rfl
 by_cases c:r<65536
 · have e:wr r=[u8 (224+r/64/64),u8 (128+r/64%64),u8 (128+r%64)]:=by unfold wr;rw[wrI3 (by omega) c];rfl
   have v0:=zD1 (x:=224+r/64/64) (by omega) (by omega);have v1:=zD1 (x:=128+r/64%64) (by omega) (by omega);have v2:=zD1 (x:=128+r%64) (by omega) (by omega);rw[e,wrI3 (by omega) c];generalize hl:[u8 (224+r/64/64),u8 (128+r/64%64),u8 (128+r%64)]++t=l;(have b0:bt l 0=224+r/64/64:=by rw[←hl];exact v0);(have b1:bt l 1=128+r/64%64:=by rw[←hl];exact v1);(have b2:bt l 2=128+r%64:=by rw[←hl];exact v2);(have hn:3≤l.length:=by rw[←hl];simp);have ha:acc (ldOf 3) l 3=r:=by show acc 224 l 3=r;rw[acc3,b0,b1,b2];omega
   rw[zQy (n:=3) (by omega) (by omega) (by rw[b0];unfold ldSz;rw[if_neg (by omega),if_neg (by omega),if_neg (by omega),if_pos (by omega)];rfl) hn
    (fun j x y => by obtain rfl | rfl : j = 1 ∨ j = 2 := by omega
                     · rw[b1];omega
                     · rw[b2];omega) (by rw[ha];show(2048:Int)≤r;omega) (by rw[ha];exact h),ha]
   rfl
 · have e:wr r=[u8 (240+r/64/64/64),u8 (128+r/64/64%64),u8 (128+r/64%64),u8 (128+r%64)]:=by unfold wr;rw[wrI4 (by omega)];rfl
   have v0:=zD1 (x:=240+r/64/64/64) (by omega) (by omega);have v1:=zD1 (x:=128+r/64/64%64) (by omega) (by omega);have v2:=zD1 (x:=128+r/64%64) (by omega) (by omega);have v3:=zD1 (x:=128+r%64) (by omega) (by omega);rw[e,wrI4 (by omega)];generalize hl:[u8 (240+r/64/64/64),u8 (128+r/64/64%64),u8 (128+r/64%64),u8 (128+r%64)]++t=l;(have b0:bt l 0=240+r/64/64/64:=by rw[←hl];exact v0);(have b1:bt l 1=128+r/64/64%64:=by rw[←hl];exact v1);(have b2:bt l 2=128+r/64%64:=by rw[←hl];exact v2);(have b3:bt l 3=128+r%64:=by rw[←hl];exact v3);(have hn:4≤l.length:=by rw[←hl];simp);have ha:acc (ldOf 4) l 4=r:=by show acc 240 l 4=r;rw[acc4,b0,b1,b2,b3];omega
   rw[zQy (n:=4) (by omega) (by omega) (by rw[b0];unfold ldSz;rw[if_neg (by omega),if_neg (by omega),if_neg (by omega),if_neg (by omega),if_pos (by omega)];rfl) hn
    (fun j x y => by obtain rfl | rfl | rfl : j = 1 ∨ j = 2 ∨ j = 3 := by omega
                     · rw[b1];omega
                     · rw[b2];omega
                     · rw[b3];omega) (by rw[ha];show(65536:Int)≤r;omega) (by rw[ha];exact h),ha]
   rfl
theorem take1{l:List UInt8}(h:l≠[]):[u8 (bt l 0)]++l.drop 1=l:=by
 cases l with
 |nil=>exact absurd rfl h
 |cons b t=>simp[zKl b (zLx b t)]
theorem take2{l:List UInt8}(h:2≤l.length):[u8 (bt l 0),u8 (bt l 1)]++l.drop 2=l:=by
 cases l with
 |nil=>simp at h
 |cons b t=>
  have:=take1 (l:=t) (by intro e;subst e;simp at h);simp[zKl b (zLx b t),zGy b t 0]at *;exact this
theorem take3{l:List UInt8}(h:3≤l.length):[u8 (bt l 0),u8 (bt l 1),u8 (bt l 2)]++l.drop 3=l:=by
 cases l with
 |nil=>simp at h
 |cons b t=>
  have:=take2 (l:=t) (by simpa using h);simp[zKl b (zLx b t),zGy b t 0,zGy b t 1]at *;exact this
theorem take4{l:List UInt8}(h:4≤l.length):[u8 (bt l 0),u8 (bt l 1),u8 (bt l 2),u8 (bt l 3)]++l.drop 4=l:=by
 cases l with
 |nil=>simp at h
 |cons b t=>
  have:=take3 (l:=t) (by simpa using h);simp[zKl b (zLx b t),zGy b t 0,zGy b t 1,zGy b t 2]at *;exact this
theorem zVa{l:List UInt8}(hl:l≠[]){r:Int}{n:Nat}(h:rd l=(r,n))(hn:n≠0):isR r=true∧n=(wrI r).length∧l=wr r++l.drop n:=by
 have hr:isR r=true:=by have:=rd_isR (l:=l) (by rw[h];exact hn);rw[h]at this;exact this
 have hbd:=of_decide_eq_true hr;have c0:=zYf l 0;refine⟨hr,?_⟩;revert h;unfold rd;by_cases a:bt l 0<128
 · rw[if_pos a]
   intro e;obtain⟨rfl,rfl⟩:=Prod.mk.inj e;refine⟨by rw[wrI1 a];rfl,?_⟩;unfold wr;rw[wrI1 a];exact(take1 hl).symm
 rw[if_neg a]
 split
 · rename_i c
   intro e;obtain⟨rfl,rfl⟩:=Prod.mk.inj e;rw[acc2]at *;have e1:=wrI2 (r:=(bt l 0-192)*64+(bt l 1-128)) (by omega) (by omega);refine⟨by rw[e1];rfl,?_⟩;unfold wr;rw[e1];(have f0:192+((bt l 0-192)*64+(bt l 1-128))/64=bt l 0:=by omega);(have f1:128+((bt l 0-192)*64+(bt l 1-128))%64=bt l 1:=by omega);rw[f0,f1];exact(take2 c.2.2.1).symm
 split
 · rename_i c
   intro e;obtain⟨rfl,rfl⟩:=Prod.mk.inj e;rw[acc3]at *;have e1:=wrI3 (r:=((bt l 0-224)*64+(bt l 1-128))*64+(bt l 2-128)) (by omega) (by omega);refine⟨by rw[e1];rfl,?_⟩;unfold wr;rw[e1];(have f0:224+(((bt l 0-224)*64+(bt l 1-128))*64+(bt l 2-128))/64/64=bt l 0:=by omega);(have f1:128+(((bt l 0-224)*64+(bt l 1-128))*64+(bt l 2-128))/64%64=bt l 1:=by omega);(have f2:128+(((bt l 0-224)*64+(bt l 1-128))*64+(bt l 2-128))%64=bt l 2:=by omega);rw[f0,f1,f2];exact(take3 c.2.2.1).symm
 split
 · rename_i c
   intro e;obtain⟨rfl,rfl⟩:=Prod.mk.inj e;rw[acc4]at *;have e1:=wrI4 (r:=(((bt l 0-240)*64+(bt l 1-128))*64+(bt l 2-128))*64+(bt l 3-128)) (by omega);refine⟨by rw[e1];rfl,?_⟩;unfold wr;rw[e1];(have f0:240+((((bt l 0-240)*64+(bt l 1-128))*64+(bt l 2-128))*64+(bt l 3-128))/64/64/64=bt l 0:=by omega);(have f1:128+((((bt l 0-240)*64+(bt l 1-128))*64+(bt l 2-128))*64+(bt l 3-128))/64/64%64=bt l 1:=by omega);(have f2:128+((((bt l 0-240)*64+(bt l 1-128))*64+(bt l 2-128))*64+(bt l 3-128))/64%64=bt l 2:=by omega);(have f3:128+((((bt l 0-240)*64+(bt l 1-128))*64+(bt l 2-128))*64+(bt l 3-128))%64=bt l 3:=by omega);rw[f0,f1,f2,f3];exact(take4 c.2.2.1).symm
 intro e;exact absurd (Prod.mk.inj e).2.symm hn
end Nums
namespace Nums
theorem pair_eta(p:Int×Nat):p=(p.1,p.2):=by cases p;rfl
theorem zU0:∀(f:Nat) (l:List UInt8) (xs:List Int),rsF f l=some xs→xs.all isR=true∧xs.flatMap wr=l:=by
 intro f
 induction f with
 |zero=>
  intro l xs h;simp only[rsF]at h;by_cases e:l=[]
  · rw[if_pos e]at h;obtain rfl:=Option.some.inj h;subst e;simp
  · rw[if_neg e]at h;cases h
 |succ f ih=>
  intro l xs h;simp only[rsF]at h;by_cases e:l=[]
  · rw[if_pos e]at h;obtain rfl:=Option.some.inj h;subst e;simp
  rw[if_neg e]at h;by_cases z:(rd l).2=0
  · rw[if_pos z]at h;cases h
  rw[if_neg z]at h;cases h2:rsF f (l.drop (rd l).2)with
  |none=>rw[h2]at h;cases h
  |some t=>
   rw[h2]at h;obtain rfl:=Option.some.inj h;obtain⟨h3,h4⟩:=ih _ _ h2;obtain⟨hr,_,hb⟩:=zVa e (pair_eta (rd l)) z;refine⟨by simp only[List.all_cons,hr,h3,Bool.and_self],?_⟩;rw[List.flatMap_cons,h4];exact hb.symm
theorem zEo{l:List UInt8}{xs:List Int}(h:rs l=some xs):xs.all isR=true∧xs.flatMap wr=l:=zU0 _ _ _ h
theorem wr_ne(r:Int):wr r≠[]:=by
 intro e;have h:=zMc r;rw[e]at h;have:=zKh r;simp at h;omega
theorem rs_wr{r:Int}(hr:isR r=true)(t:List UInt8):rs (wr r++t)=(rs t).map (fun xs=>r::xs):=by
 have h:=rd_wr hr t;have hn:wr r++t≠[]:=by
  intro e;exact wr_ne r (List.append_eq_nil_iff.1 e).1
 have hl:=zKh r;rw[zUz hn (by rw[h];show(wrI r).length≠0;omega),h];show(rs ((wr r++t).drop (wrI r).length)).map _=_;rw[←zMc r,List.drop_left]
theorem zQq:∀(xs:List Int),xs.all isR=true→∀t,rs (xs.flatMap wr++t)=(rs t).map (fun ys=>xs++ys)
 |[],_,t=>by simp
 |x::xs,h,t=>by
  have h1:isR x=true:=by simp at h;exact h.1
  have h2:xs.all isR=true:=by simp at h;simpa using h.2
  rw[List.flatMap_cons,List.append_assoc,rs_wr h1,zQq xs h2 t];cases rs t<;>simp
theorem rs_text{xs:List Int}(h:xs.all isR=true):rs (xs.flatMap wr)=some xs:=by
 have:=zQq xs h [];rw[List.append_nil,rs_nil]at this;simpa using this
theorem zTg(xs:List Int):(xs.flatMap wrI).map (fun n=>UInt8.ofNat n.toNat)=xs.flatMap wr:=by
 induction xs with
 |nil=>rfl
 |cons x r ih=>rw[List.flatMap_cons,List.flatMap_cons,List.map_append,ih];rfl
end Nums
namespace Nums
def lexL:List Int→List Int→Bool
 |_,[]=>false
 |[],_::_=>true
 |a::x,b::y=>decide (a<b)||(decide (a=b)&&lexL x y)
theorem zEs(x:List Int):lexL x []=false:=by cases x<;>rfl
theorem zCs(a b:Int)(x y:List Int):lexL (a::x) (b::y)=(decide (a<b)||(decide (a=b)&&lexL x y)):=rfl
theorem zEd(a:Int)(x y:List Int):lexL (a::x) (a::y)=lexL x y:=by simp[zCs]
theorem zRe:∀(p x y:List Int),lexL (p++x) (p++y)=lexL x y
 |[],_,_=>rfl
 |a::p,x,y=>by rw[List.cons_append,List.cons_append,zEd,zRe p]
theorem zJx:∀x y:List Int,lexL x y=true→lexL y x=false
 |_,[],h=>by rw[zEs]at h;cases h
 |[],_::_,_=>rfl
 |a::x,b::y,h=>by
  rw[zCs]at h ⊢;by_cases e:a=b
  · subst e
    simp at h ⊢;exact zJx x y h
  · simp[e]at h
    simp;omega
theorem zWe:∀(k:Nat) (xs ys:List Int),k<xs.length→k<ys.length→(∀j,j<k→xs.getD j 0=ys.getD j 0)→xs.getD k 0≠ys.getD k 0→lexL xs ys=decide (xs.getD k 0<ys.getD k 0)
 |_,[],_,h,_,_,_=>by simp at h
 |_,_::_,[],_,h,_,_=>by simp at h
 |0,a::x,b::y,_,_,_,hn=>by
  have hn':a≠b:=hn;rw[zCs,decide_eq_false hn'];simp
 |k+1,a::x,b::y,h1,h2,ha,hn=>by
  have e:a=b:=ha 0 (by omega);subst e;rw[zEd,zWe k x y (by simpa using h1) (by simpa using h2) (fun j hj=>by have:=ha (j+1) (by omega);simpa using this) (by simpa using hn)];simp
theorem zLf:∀(k:Nat) (xs ys:List Int),k≤xs.length→k≤ys.length→(∀j,j<k→xs.getD j 0=ys.getD j 0)→(k=xs.length∨k=ys.length)→lexL xs ys=decide (xs.length<ys.length)
 |_,xs,[],_,_,_,_=>by rw[zEs];simp
 |_,[],_::_,_,_,_,_=>by simp[lexL]
 |0,a::x,b::y,_,_,_,h=>by simp at h
 |k+1,a::x,b::y,h1,h2,ha,h=>by
  have e:a=b:=ha 0 (by omega);subst e;rw[zEd,zLf k x y (by simpa using h1) (by simpa using h2) (fun j hj=>by have:=ha (j+1) (by omega);simpa using this) (by simpa using h)];simp
def N(c:UInt8):Int:=(c.toNat:Int)
theorem zLg:∀a b:List UInt8,Op.bytesLess a b=lexL (a.map N) (b.map N)
 |_,[]=>by rw[Op.bytesLess.eq_1,List.map_nil,zEs]
 |[],_::_=>by rw[Op.bytesLess.eq_2];rfl
 |a::x,b::y=>by
  rw[Op.bytesLess.eq_3,List.map_cons,List.map_cons,zCs,zLg x y];have e1:decide (a<b)=decide (N a<N b):=decide_eq_decide.2 (by unfold N;rw[UInt8.lt_iff_toNat_lt];omega);have e2:(a==b)=decide (N a=N b):=by
   rw[Bool.eq_iff_iff,beq_iff_eq,decide_eq_true_iff];unfold N;exact⟨fun h=>by rw[h],fun h=>UInt8.toNat_inj.1 (by omega)⟩
  rw[e1,e2]
theorem zKb(l:List UInt8)(i:Nat):(l.map N).getD i 0=bt l i:=by
 unfold bt;rw[List.getD_eq_getElem?_getD,List.getElem?_map,List.getD_eq_getElem?_getD];cases l[i]?<;>rfl
theorem zT9{r:Int}(h:isR r=true):(wr r).map N=wrI r:=by
 have hb:=of_decide_eq_true h;unfold wr;rw[List.map_map];have:∀x∈wrI r,(N∘u8) x=x:=by
  intro x hx;refine zD1 ?_ ?_
  all_goals
   revert hx;unfold wrI
   repeat' split
   all_goals
    intro hx;simp at hx;omega
 rw[List.map_congr_left this,List.map_id']
theorem lex_wr{x y:Int}(hx:isR x=true)(hy:isR y=true)(h:x<y)(s t:List Int):lexL (wrI x++s) (wrI y++t)=true:=by
 have bx:=of_decide_eq_true hx;have byy:=of_decide_eq_true hy;clear hx hy;have cx:(x<128∧wrI x=[x])∨(128≤x∧x<2048∧wrI x=[192+x/64,128+x%64])∨(2048≤x∧x<65536∧wrI x=[224+x/64/64,128+x/64%64,128+x%64])∨(65536≤x∧wrI x=[240+x/64/64/64,128+x/64/64%64,128+x/64%64,128+x%64]):=by
  by_cases a:x<128
  · exact .inl ⟨a,wrI1 a⟩
  by_cases b:x<2048
  · exact .inr (.inl ⟨by omega,b,wrI2 (by omega) b⟩)
  by_cases c:x<65536
  · exact .inr (.inr (.inl ⟨by omega,c,wrI3 (by omega) c⟩))
  · exact .inr (.inr (.inr ⟨by omega,wrI4 (by omega)⟩))
 have cy:(y<128∧wrI y=[y])∨(128≤y∧y<2048∧wrI y=[192+y/64,128+y%64])∨(2048≤y∧y<65536∧wrI y=[224+y/64/64,128+y/64%64,128+y%64])∨(65536≤y∧wrI y=[240+y/64/64/64,128+y/64/64%64,128+y/64%64,128+y%64]):=by
  by_cases a:y<128
  · exact .inl ⟨a,wrI1 a⟩
  by_cases b:y<2048
  · exact .inr (.inl ⟨by omega,b,wrI2 (by omega) b⟩)
  by_cases c:y<65536
  · exact .inr (.inr (.inl ⟨by omega,c,wrI3 (by omega) c⟩))
  · exact .inr (.inr (.inr ⟨by omega,wrI4 (by omega)⟩))
 rcases cx with⟨x1,ex⟩|⟨x0,x1,ex⟩|⟨x0,x1,ex⟩|⟨x0,ex⟩<;>rcases cy with⟨y1,ey⟩|⟨y0,y1,ey⟩|⟨y0,y1,ey⟩|⟨y0,ey⟩<;>rw[ex,ey] <;>
  simp only[List.cons_append,List.nil_append,zCs,Bool.or_eq_true,Bool.and_eq_true,decide_eq_true_eq]<;>omega
theorem zH4:∀(xs ys:List Int),xs.all isR=true→ys.all isR=true→lexL ((xs.flatMap wr).map N) ((ys.flatMap wr).map N)=lexL xs ys
 |xs,[],_,_=>by simp[zEs]
 |[],y::ys,_,h=>by
  have hy:isR y=true:=by simp at h;exact h.1
  rw[List.flatMap_cons,List.map_append,zT9 hy];have hl:=zKh y;cases e:wrI y with
  |nil=>rw[e]at hl;simp at hl
  |cons a t=>rfl
 |x::xs,y::ys,hxs,hys=>by
  have hx:isR x=true:=by simp at hxs;exact hxs.1
  have hy:isR y=true:=by simp at hys;exact hys.1
  have hx2:xs.all isR=true:=by simp at hxs;simpa using hxs.2
  have hy2:ys.all isR=true:=by simp at hys;simpa using hys.2
  rw[List.flatMap_cons,List.flatMap_cons,List.map_append,List.map_append,zT9 hx,zT9 hy,zCs];by_cases e:x=y
  · subst e
    rw[zRe,zH4 xs ys hx2 hy2];simp
  by_cases l:x<y
  · rw[lex_wr hx hy l];simp[l]
  · rw[zJx _ _ (lex_wr hy hx (by omega) _ _)];simp[l,e]
theorem order_rs{a b:List UInt8}{xs ys:List Int}(h1:rs a=some xs)(h2:rs b=some ys):lexL (a.map N) (b.map N)=lexL xs ys:=by
 obtain⟨p1,p2⟩:=zEo h1;obtain⟨q1,q2⟩:=zEo h2;have:=zH4 xs ys p1 q1;rw[p2,q2]at this;exact this
end Nums
namespace Fm
open Go.Proofs.YtkdhdehobdfakaaGreatDoor.Nums
def Rise(S:List En):Prop:=S.Pairwise fun a b=>lexL a.1 b.1=true
theorem zWd{x y:List Int}(h:lexL x y=true):y≠[]:=fun e=>by rw[e,zEs]at h;cases h
theorem zBi{S:List En}(h:Rise S):Rise (zAj S)∧∀e∈zAj S,e.1≠[]:=by
 cases S with
 |nil=>exact⟨h,fun e he=>by cases he⟩
 |cons x r=>
  obtain⟨a,n⟩:=x;obtain⟨h1,h2⟩:=List.pairwise_cons.1 h;cases a with
  |nil=>exact⟨h2,fun e he=>zWd (h1 e he)⟩
  |cons c t=>
   refine⟨h,fun e he=>?_⟩;rcases List.mem_cons.1 he with rfl|he
   · simp
   · exact zWd (h1 e he)
def pre(c:Int)(e:En):En:=(c::e.1,e.2)
theorem zVj{e:En}(h:e.1≠[]):pre (hd e) (tl e)=e:=by
 obtain⟨x,n⟩:=e;cases x with
 |nil=>exact absurd rfl h
 |cons c t=>rfl
def flat(gs:List (Int×List En)):List En:=gs.flatMap fun p=>p.2.map (pre p.1)
theorem zWj(c:Int):∀(r:List En),∀e∈r.take (lead c r),hd e=c
 |[],e,h=>by simp at h
 |x::r,e,h=>by
  rw[lead]at h
  split at h
  · rename_i hx
    rw[List.take_succ_cons]at h;rcases List.mem_cons.1 h with rfl|h
    · exact hx
    · exact zWj c r e h
  · simp at h
theorem zJw{c:Int}:∀(l:List En),(∀e∈l,e.1≠[]∧hd e=c)→(l.map tl).map (pre c)=l
 |[],_=>rfl
 |e::r,h=>by
  obtain⟨h1,h2⟩:=h e (by simp);rw[List.map_cons,List.map_cons,zJw r fun x hx=>h x (by simp[hx]),←h2,zVj h1]
theorem zRo{e:En}{r:List En}:∀x∈(e::r).take (lead (hd e) r+1),hd x=hd e:=fun x hx=>by
 rw[List.take_succ_cons]at hx;rcases List.mem_cons.1 hx with rfl|hx
 · rfl
 · exact zWj _ _ x hx
theorem zEv:∀(n:Nat) (l:List En),l.length≤n→(∀e∈l,e.1≠[])→flat (grp l)=l
 |_,[],_,_=>rfl
 |0,e::r,h,_=>by simp at h
 |n+1,e::r,h,hne=>by
  rw[zC1,flat,List.flatMap_cons,←flat];rw[zEv n _ (by rw[List.length_drop];simp at h ⊢;omega) (fun x hx=>hne x (List.mem_of_mem_drop hx))];rw[zJw _ fun x hx=>⟨hne x (List.mem_of_mem_take hx),zRo x hx⟩,List.take_append_drop]
theorem zJ1:∀(n:Nat) (l:List En),l.length≤n→∀p∈grp l,p.2≠[]
 |_,[],_,_,h=>by cases h
 |0,e::r,h,_,_=>by simp at h
 |n+1,e::r,h,p,hp=>by
  rw[zC1]at hp;rcases List.mem_cons.1 hp with rfl|hp
  · simp
  · exact zJ1 n _ (by rw[List.length_drop];simp at h ⊢;omega) p hp
theorem zFd{l:List En}(hne:∀e∈l,e.1≠[]){p:Int×List En}(hp:p∈grp l){e:En}(he:e∈p.2):pre p.1 e∈l:=by
 rw[←zEv _ l (Nat.le_refl _) hne];exact List.mem_flatMap.2 ⟨p,hp,List.mem_map.2 ⟨e,he,rfl⟩⟩
theorem rise_tl{c:Int}{l:List En}(h:Rise l)(hc:∀e∈l,e.1≠[]∧hd e=c):Rise (l.map tl):=by
 unfold Rise;rw[List.pairwise_map];refine List.Pairwise.imp_of_mem ?_ h;intro a b ha hb hab;obtain⟨h1,h2⟩:=hc a ha;obtain⟨h3,h4⟩:=hc b hb;obtain⟨x,n⟩:=a;obtain⟨y,m⟩:=b;cases x with
 |nil=>exact absurd rfl h1
 |cons p x=>
  cases y with
  |nil=>exact absurd rfl h3
  |cons q y=>
   have e1:p=c:=h2;have e2:q=c:=h4;rw[e1,e2]at hab;show lexL x y=true;rw[←zEd c x y];exact hab
theorem zHk:∀(n:Nat) (l:List En),l.length≤n→(∀e∈l,e.1≠[])→Rise l→∀p∈grp l,Rise p.2
 |_,[],_,_,_,_,h=>by cases h
 |0,e::r,h,_,_,_,_=>by simp at h
 |n+1,e::r,h,hne,hr,p,hp=>by
  rw[zC1]at hp;rcases List.mem_cons.1 hp with rfl|hp
  · exact rise_tl (List.Pairwise.sublist (List.take_sublist _ _) hr) fun x hx=>⟨hne x (List.mem_of_mem_take hx),zRo x hx⟩
  · exact zHk n _ (by rw[List.length_drop];simp at h ⊢;omega) (fun x hx=>hne x (List.mem_of_mem_drop hx)) (List.Pairwise.sublist (List.drop_sublist _ _) hr) p hp
theorem hd_le{a b:En}(h:lexL a.1 b.1=true)(ha:a.1≠[]):hd a≤hd b:=by
 obtain⟨x,n⟩:=a;obtain⟨y,m⟩:=b;cases x with
 |nil=>exact absurd rfl ha
 |cons p x=>
  cases y with
  |nil=>rw[zEs]at h;cases h
  |cons q y=>
   rw[zCs]at h;show p≤q;simp only[Bool.or_eq_true,Bool.and_eq_true,decide_eq_true_eq]at h;omega
theorem zNf(c:Int):∀(r:List En) (x:En),r[lead c r]?=some x→hd x≠c
 |[],x,h=>by simp at h
 |e::r,x,h=>by
  rw[lead]at h
  split at h
  · exact zNf c r x (by simpa using h)
  · rename_i hne
    simp at h;subst h;exact hne
theorem zEt:∀(n:Nat) (l:List En),l.length≤n→(∀e∈l,e.1≠[])→Rise l→(grp l).Pairwise (fun p q=>p.1<q.1)∧∀p∈grp l,∃e∈l,hd e=p.1
 |_,[],_,_,_=>⟨List.Pairwise.nil,fun p h=>by cases h⟩
 |0,e::r,h,_,_=>by simp at h
 |n+1,e::r,h,hne,hr=>by
  obtain⟨ih1,ih2⟩:=zEt n ((e::r).drop (lead (hd e) r+1)) (by rw[List.length_drop];simp at h ⊢;omega) (fun x hx=>hne x (List.mem_of_mem_drop hx)) (List.Pairwise.sublist (List.drop_sublist _ _) hr);rw[zC1];obtain⟨hr1,hr2⟩:=List.pairwise_cons.1 hr;have hgt:∀x∈(e::r).drop (lead (hd e) r+1),hd e<hd x:=fun x hx=>by
   rw[List.drop_succ_cons]at hx;have hxr:=List.mem_of_mem_drop hx;have h1:=hd_le (hr1 x hxr) (hne e (by simp));obtain⟨j,hj⟩:=List.mem_iff_getElem?.1 hx;rw[List.getElem?_drop]at hj;obtain⟨hjl,hje⟩:=List.getElem?_eq_some_iff.1 hj;obtain⟨y,hy⟩:∃y,r[lead (hd e) r]?=some y:=⟨r[lead (hd e) r]'(by omega),List.getElem?_eq_getElem _⟩;have hyn:=zNf _ _ _ hy;obtain⟨hyl,hye⟩:=List.getElem?_eq_some_iff.1 hy;have hym:y∈r:=List.mem_of_getElem? hy;have h2:=hd_le (hr1 y hym) (hne e (by simp));have h3:hd y≤hd x:=by
    cases j with
    |zero=>rw[Nat.add_zero,hy]at hj;cases hj;exact Int.le_refl _
    |succ j=>
     have:=List.pairwise_iff_getElem.1 hr2 (lead (hd e) r) (lead (hd e) r+(j+1)) hyl hjl (by omega);rw[hye,hje]at this;exact hd_le this (hne y (by simp[hym]))
   omega
  refine⟨List.pairwise_cons.2 ⟨fun p hp=>?_,ih1⟩,fun p hp=>?_⟩
  · obtain⟨x,hx,hxe⟩:=ih2 p hp
    rw[←hxe];exact hgt x hx
  · rcases List.mem_cons.1 hp with rfl|hp
    · exact⟨e,by simp,rfl⟩
    · obtain⟨x,hx,hxe⟩:=ih2 p hp
      exact⟨x,List.mem_of_mem_drop hx,hxe⟩
theorem zEq:∀(f:Nat) (S:List En),S≠[]→Rise S→(∀e∈S,e.1.length<f)→Ok f S
 |0,S,h,_,hl=>by
  cases S with
  |nil=>exact absurd rfl h
  |cons e r=>exact absurd (hl e (by simp)) (by omega)
 |f+1,S,h,hr,hl=>by
  obtain⟨h1,h2⟩:=zBi hr;have hsub:∀e∈zAj S,e∈S:=fun e he=>by
   cases S with
   |nil=>exact he
   |cons x r=>
    obtain⟨a,n⟩:=x;cases a with
    |nil=>exact .tail _ he
    |cons c t=>exact he
  refine⟨h,h2,fun p hp=>zEq f p.2 (zJ1 _ _ (Nat.le_refl _) p hp) (zHk _ _ (Nat.le_refl _) h2 h1 p hp) fun e he=>?_⟩;have:=hl _ (hsub _ (zFd h2 hp he));simp only[pre,List.length_cons]at this;omega
end Fm
namespace Fm
open Go.Proofs.YtkdhdehobdfakaaGreatDoor.Nums
def zAi(n:Int)(S:List En):List En:=S.map fun e=>(e.1,e.2+n)
def zAd(S:List En):List En:=zAi (-least S) S
theorem zQp{n:Int}{S:List En}:zAi n S≠[]↔S≠[]:=by simp[zAi]
theorem zCk(S:List En):zAi 0 S=S:=by simp[zAi]
theorem zB3(m n:Int)(S:List En):zAi m (zAi n S)=zAi (n+m) S:=by
 simp only[zAi,List.map_map];refine List.map_congr_left fun e _=>?_
 simp only[Function.comp,Int.add_assoc]
theorem zG6(n:Int):∀(l:List En) (m:Int),zAv (m+n) (zAi n l)=zAv m l+n
 |[],_=>rfl
 |e::r,m=>by
  have ih:=zG6 n r (if e.2<m then e.2 else m);rw[zAi,List.map_cons,←zAi,zAv,zAv,←ih];congr 1;simp only
  split<;>split<;>omega
theorem zB4(n:Int){S:List En}(h:S≠[]):least (zAi n S)=least S+n:=by
 cases S with
 |nil=>exact absurd rfl h
 |cons e r=>exact zG6 n (e::r) e.2
theorem zFb{S:List En}(h:S≠[]):least (zAd S)=0:=by rw[zAd,zB4 _ h];omega
theorem zFa(n:Int){S:List En}(h:S≠[]):zAd (zAi n S)=zAd S:=by
 rw[zAd,zB4 n h,zB3,zAd];congr 1;omega
theorem level_of{S:List En}(h:least S=0):zAd S=S:=by rw[zAd,h];exact zCk S
theorem zHh{S:List En}:zAd S≠[]↔S≠[]:=zQp
theorem zDo(n:Int)(S:List En):zAi n (zAd S)=zAi (n-least S) S:=by rw[zAd,zB3];congr 1;omega
theorem zUx{n:Int}{S T:List En}(h:zAi n S=zAi n T):S=T:=by
 have:=congrArg (zAi (-n)) h;rw[zB3,zB3,Int.add_right_neg,zCk,zCk]at this;exact this
theorem zIe(n:Int):∀l:List En,grp (zAi n l)=(grp l).map fun p=>(p.1,zAi n p.2)
 |[]=>rfl
 |e::r=>by
  have ih:=zIe n r;rw[zAi,List.map_cons,←zAi,grp,grp,ih];cases grp r with
  |nil=>rfl
  |cons p gs=>
   obtain⟨c,G⟩:=p;simp only[List.map_cons];have hh:hd (e.1,e.2+n)=hd e:=rfl;rw[hh];by_cases h:hd e=c
   · rw[if_pos h,if_pos h];rfl
   · rw[if_neg h,if_neg h];rfl
theorem zD4(n:Int)(S:List En):zAj (zAi n S)=zAi n (zAj S):=by
 cases S with
 |nil=>rfl
 |cons e r=>
  obtain⟨x,m⟩:=e;cases x<;>rfl
theorem zIj(n:Int)(S:List En):zCw (zAi n S)=zCw S:=by
 cases S with
 |nil=>rfl
 |cons e r=>
  obtain⟨x,m⟩:=e;cases x<;>rfl
theorem zGv(n:Int)(gs:List (Int×List En)):zAi n (flat gs)=flat (gs.map fun p=>(p.1,zAi n p.2)):=by
 simp only[zAi,flat,List.map_flatMap,List.flatMap_map,List.map_map];rfl
def outs(D:List (List En))(as':List Arc):List (Int×List En):=as'.map fun a=>(a.label,zAi a.out (D[a.to]?.getD []))
def fins(s:St):List En:=if s.final then [([],s.out)]else []
def exp(D:List (List En))(s:St):List En:=fins s++flat (outs D s.arcs)
structure Canon(D:List (List En))(s:St):Prop where
 lab:s.arcs.Pairwise fun a b=>a.label<b.label
 to:∀a∈s.arcs,a.to<D.length
 fin:s.final=false→s.out=0
structure Inv(D:List (List En))(b:List St):Prop where
 len:D.length=b.length
 row:∀(i:Nat) (s:St),b[i]?=some s→D[i]?=some (exp D s)∧(∀a∈s.arcs,a.to<i)∧Canon D s
 nd:D.Nodup
 lv:∀R∈D,R≠[]∧least R=0
theorem Inv.nil:Inv [] []:=⟨rfl,fun i s h=>by simp at h,List.nodup_nil,fun R h=>by cases h⟩
theorem zK4{α:Type}{D D':List α}(h:D<+:D'){i:Nat}(hi:i<D.length):D'[i]?=D[i]?:=by
 obtain⟨t,rfl⟩:=h;exact List.getElem?_append_left hi
theorem outs_pre{D D':List (List En)}(h:D<+:D'){l:List Arc}(ht:∀a∈l,a.to<D.length):outs D' l=outs D l:=by
 unfold outs;refine List.map_congr_left fun a ha=>?_
 rw[zK4 h (ht a ha)]
theorem zIl{D D':List (List En)}(h:D<+:D'){s:St}(ht:∀a∈s.arcs,a.to<D.length):exp D' s=exp D s:=by
 rw[exp,exp,outs_pre h ht]
theorem Canon.pre{D D':List (List En)}(h:D<+:D'){s:St}(c:Canon D s):Canon D' s:=⟨c.lab,fun a ha=>Nat.lt_of_lt_of_le (c.to a ha) h.length_le,c.fin⟩
theorem zXi{gs:List (Int×List En)}:∀e∈flat gs,e.1≠[]:=fun e he=>by
 obtain⟨p,_,h2⟩:=List.mem_flatMap.1 he;obtain⟨x,_,rfl⟩:=List.mem_map.1 h2;simp[pre]
theorem zRp:∀(gs:List (Int×List En)),(∀p∈gs,p.2≠[])→gs.Pairwise (fun p q=>p.1<q.1)→grp (flat gs)=gs
 |[],_,_=>rfl
 |(c,G)::r,hne,hp=>by
  obtain⟨h1,h2⟩:=List.pairwise_cons.1 hp;have ih:=zRp r (fun p hp=>hne p (by simp[hp])) h2;have key:∀(G:List En),G≠[]→grp (G.map (pre c)++flat r)=(c,G)::r:=by
   intro G
   induction G with
   |nil=>intro h;exact absurd rfl h
   |cons g0 G' ihG=>
    intro _;rw[List.map_cons,List.cons_append,grp];have hh:hd (pre c g0)=c:=rfl;have ht:tl (pre c g0)=g0:=rfl;by_cases hG:G'=[]
    · subst hG
      rw[List.map_nil,List.nil_append,ih,hh,ht];cases r with
      |nil=>rfl
      |cons p r'=>
       obtain⟨c',G''⟩:=p;(have:¬c=c':=fun e=>by have:=h1 (c',G'') (by simp);simp only at this;omega);simp only[if_neg this]
    · rw[ihG hG,hh,ht]
      simp
  have:flat ((c,G)::r)=G.map (pre c)++flat r:=rfl;rw[this];exact key G (hne (c,G) (by simp))
theorem zTh(s:St){T:List En}(hT:∀e∈T,e.1≠[]):zCw (fins s++T)=s.final∧zAj (fins s++T)=T:=by
 unfold fins;cases s.final with
 |true=>exact⟨rfl,rfl⟩
 |false=>
  cases T with
  |nil=>exact⟨rfl,rfl⟩
  |cons e r=>
   obtain⟨x,n⟩:=e;cases x with
   |nil=>exact absurd rfl (hT ([],n) (by simp))
   |cons c t=>exact⟨rfl,rfl⟩
theorem outs_ok{D:List (List En)}{l:List Arc}(hlv:∀R∈D,R≠[]∧least R=0)(ht:∀a∈l,a.to<D.length):∀p∈outs D l,p.2≠[]:=fun p hp=>by
 obtain⟨a,ha,rfl⟩:=List.mem_map.1 hp;rw[List.getElem?_eq_getElem (ht a ha)];exact zQp.2 (hlv _ (List.getElem_mem _)).1
theorem outs_lab{D:List (List En)}{l:List Arc}(h:l.Pairwise fun a b=>a.label<b.label):(outs D l).Pairwise fun p q=>p.1<q.1:=by
 unfold outs;rw[List.pairwise_map];exact h
theorem zLq{D:List (List En)}{s:St}(hlv:∀R∈D,R≠[]∧least R=0)(c:Canon D s):zCw (exp D s)=s.final∧grp (zAj (exp D s))=outs D s.arcs:=by
 obtain⟨h1,h2⟩:=zTh s (T:=flat (outs D s.arcs)) zXi;rw[exp,h1,h2];exact⟨rfl,zRp _ (outs_ok hlv c.to) (outs_lab c.lab)⟩
theorem zGq{D:List (List En)}(hn:D.Nodup){i j:Nat}(hi:i<D.length)(hj:j<D.length)(h:D[i]?.getD []=D[j]?.getD []):i=j:=by
 rw[List.getElem?_eq_getElem hi,List.getElem?_eq_getElem hj]at h;simp only[Option.getD_some]at h;have hp:=List.pairwise_iff_getElem.1 hn;rcases Nat.lt_trichotomy i j with h3|h3|h3
 · exact absurd h (hp i j hi hj h3)
 · exact h3
 · exact absurd h.symm (hp j i hj hi h3)
theorem zQ3{D:List (List En)}(hn:D.Nodup)(hlv:∀R∈D,R≠[]∧least R=0):∀(l m:List Arc),(∀a∈l,a.to<D.length)→(∀a∈m,a.to<D.length)→outs D l=outs D m→l=m
 |[],[],_,_,_=>rfl
 |[],_::_,_,_,h=>by simp[outs]at h
 |_::_,[],_,_,h=>by simp[outs]at h
 |a::l,c::m,hl,hm,h=>by
  simp only[outs,List.map_cons,List.cons.injEq,Prod.mk.injEq]at h;obtain⟨⟨h1,h2⟩,h3⟩:=h;have ha:=hl a (by simp);have hc:=hm c (by simp);have va:=hlv _ (List.getElem_mem ha);have vc:=hlv _ (List.getElem_mem hc);have h2':=h2;rw[List.getElem?_eq_getElem ha,List.getElem?_eq_getElem hc]at h2';simp only[Option.getD_some]at h2';have ho:a.out=c.out:=by
   have:=congrArg least h2';rw[zB4 _ va.1,zB4 _ vc.1,va.2,vc.2]at this;omega
  rw[ho]at h2;have ht:=zGq hn ha hc (zUx h2);have e:a=c:=by cases a;cases c;simp only at h1 ho ht;rw[h1,ho,ht]
  rw[e,zQ3 hn hlv l m (fun x hx=>hl x (by simp[hx])) (fun x hx=>hm x (by simp[hx])) h3]
theorem zXl{D:List (List En)}(hn:D.Nodup)(hlv:∀R∈D,R≠[]∧least R=0){s t:St}(cs:Canon D s)(ct:Canon D t)(h:exp D s=exp D t):s=t:=by
 obtain⟨f1,g1⟩:=zLq hlv cs;obtain⟨f2,g2⟩:=zLq hlv ct;rw[h,f2]at f1;rw[h,g2]at g1;have ha:=zQ3 hn hlv _ _ cs.to ct.to g1.symm;have ho:s.out=t.out:=by
  cases hf:s.final with
  |false=>rw[cs.fin hf,ct.fin (by rw[f1,hf])]
  |true=>
   rw[exp,exp,fins,fins,hf,f1,hf]at h;simp only[if_true,List.cons_append,List.nil_append,List.cons.injEq,Prod.mk.injEq,true_and]at h;exact h.1
 cases s;cases t;simp only at f1 ha ho;rw[f1,ha,ho]
end Fm
namespace Fm
open Go.Proofs.YtkdhdehobdfakaaGreatDoor.Nums
inductive Sub:List En→List En→Prop
 |here (S:List En):Sub S (zAd S)
 |step {S R:List En} {p:Int×List En}:p∈grp (zAj S)→Sub p.2 R→Sub S R
structure Mkd(D:List (List En))(S:List En)(b:List St)(r:List St×Nat)(D':List (List En)):Prop where
 inv:Inv D' r.1
 ext:D<+:D'
 num:D'[r.2]?=some (zAd S)
 old:∀i,D[i]?=some (zAd S)→r=(b,i)∧D'=D
 sub:∀R∈D',R∈D∨Sub S R
 all:∀R,Sub S R→R∈D'
def Good(f:Nat)(S:List En):Prop:=S≠[]∧Rise S∧∀e∈S,e.1.length<f
structure MkdAll(base:Int)(D:List (List En))(gs:List (Int×List En))(b:List St)(r:List St×List Arc)(D':List (List En)):Prop where
 inv:Inv D' r.1
 ext:D<+:D'
 outs:outs D' r.2=gs.map fun p=>(p.1,zAi (-base) p.2)
 to:∀a∈r.2,a.to<D'.length
 old:(∀p∈gs,zAd p.2∈D)→r.1=b∧D'=D
 sub:∀R∈D',R∈D∨∃p∈gs,Sub p.2 R
 all:∀p∈gs,∀R,Sub p.2 R→R∈D'
theorem zHr{f:Nat}{base:Int}(ih:∀(D:List (List En)) (b:List St) (S:List En),Inv D b→Good f S→∃D',Mkd D S b (stF f b S) D'):
 ∀(gs:List (Int×List En)) (D:List (List En)) (b:List St),Inv D b→(∀p∈gs,Good f p.2)→∃D',MkdAll base D gs b (arF (stF f) base b gs) D'
 |[],D,b,hI,_=>⟨D,hI,List.prefix_refl _,rfl,fun a ha=>by simp[arF]at ha,fun _=>⟨rfl,rfl⟩,fun R hR => .inl hR,fun p hp=>by cases hp⟩
 |(c,G)::r,D,b,hI,hG=>by
  have hGG:=hG (c,G) (by simp);obtain⟨D1,M1⟩:=ih D b G hI hGG;obtain⟨D2,M2⟩:=zHr ih r D1 (stF f b G).1 M1.inv (fun p hp=>hG p (by simp[hp]));have hlt:(stF f b G).2<D1.length:=(List.getElem?_eq_some_iff.1 M1.num).1;refine⟨D2,?_⟩;rw[arF];refine⟨M2.inv,M1.ext.trans M2.ext,?_,fun a ha=>?_,fun h=>?_,fun R hR=>?_,fun p hp R hR=>?_⟩
  · have h2:=M2.outs
    simp only[Fm.outs,List.map_cons]at h2 ⊢;rw[h2,zK4 M2.ext hlt,M1.num,Option.getD_some,zDo];congr 3;omega
  · rcases List.mem_cons.1 ha with rfl|ha
    · exact Nat.lt_of_lt_of_le hlt M2.ext.length_le
    · exact M2.to a ha
  · obtain⟨i,hi⟩:=List.mem_iff_getElem?.1 (h (c,G) (by simp))
    obtain⟨e1,e2⟩:=M1.old i hi;subst e2;(obtain⟨e3,e4⟩:=M2.old fun p hp=>h p (by simp[hp]));exact⟨by simp only;rw[e3,e1],e4⟩
  · rcases M2.sub R hR with h|⟨p,hp,h⟩
    · rcases M1.sub R h with h|h
      · exact .inl h
      · exact .inr ⟨(c,G),by simp,h⟩
    · exact .inr ⟨p,by simp[hp],h⟩
  · rcases List.mem_cons.1 hp with rfl|hp
    · exact M2.ext.subset (M1.all R hR)
    · exact M2.all p hp R hR
theorem zCu{f:Nat}{S:List En}(h:Good (f+1) S):∀p∈grp (zAj S),Good f p.2:=fun p hp=>by
 obtain⟨h0,hr,hl⟩:=h;obtain⟨h1,h2⟩:=zBi hr;have hsub:∀e∈zAj S,e∈S:=fun e he=>by
  cases S with
  |nil=>exact he
  |cons x r=>
   obtain⟨a,n⟩:=x;cases a with
   |nil=>exact .tail _ he
   |cons c t=>exact he
 refine⟨zJ1 _ _ (Nat.le_refl _) p hp,zHk _ _ (Nat.le_refl _) h2 h1 p hp,fun e he=>?_⟩;have:=hl _ (hsub _ (zFd h2 hp he));simp only[pre,List.length_cons]at this;omega
theorem zGw(S:List En)(arcs:List Arc):zAi (-least S) S=fins ⟨zCw S,zCi S,arcs⟩++zAi (-least S) (zAj S):=by
 cases S with
 |nil=>rfl
 |cons e r=>
  obtain⟨x,n⟩:=e;cases x with
  |nil=>simp only[zCw,zCi,fins,zAj,zAi,if_true,List.map_cons,List.cons_append,List.nil_append,Int.sub_eq_add_neg]
  |cons c t=>rfl
theorem zH3{D:List (List En)}{arcs:List Arc}{gs:List (Int×List En)}{n:Int}(h:outs D arcs=gs.map fun p=>(p.1,zAi n p.2))(hp:gs.Pairwise fun p q=>p.1<q.1):arcs.Pairwise fun a b=>a.label<b.label:=by
 have h2:(outs D arcs).map (·.1)=gs.map (·.1):=by rw[h,List.map_map];rfl
 have h3:(outs D arcs).map (·.1)=arcs.map (·.label):=by unfold outs;rw[List.map_map];rfl
 rw[h3]at h2;have h4:(gs.map (·.1)).Pairwise (·<·):=by rw[List.pairwise_map];exact hp
 rw[←h2,List.pairwise_map]at h4;exact h4
theorem zCf:∀(f:Nat) (D:List (List En)) (b:List St) (S:List En),Inv D b→Good f S→∃D',Mkd D S b (stF f b S) D'
 |0,_,_,S,_,h=>by
  obtain⟨h0,_,h2⟩:=h;cases S with
  |nil=>exact absurd rfl h0
  |cons e r=>exact absurd (h2 e (by simp)) (by omega)
 |f+1,D,b,S,hI,hG=>by
  obtain⟨hr1,hr2⟩:=zBi hG.2.1;have hgg:=zCu hG;have hfl:=zEv _ (zAj S) (Nat.le_refl _) hr2;have hlab:=(zEt _ (zAj S) (Nat.le_refl _) hr2 hr1).1;obtain⟨D1,M⟩:=zHr (base:=least S) (zCf f) (grp (zAj S)) D b hI hgg;rw[stF];generalize arF (stF f) (least S) b (grp (zAj S))=q at M;obtain⟨b1,arcs⟩:=q;simp only at M ⊢;obtain⟨s,hs⟩:∃s:St,s=⟨zCw S,zCi S,arcs⟩:=⟨_,rfl⟩;rw[←hs];have hcan:Canon D1 s:=by
   rw[hs];refine⟨zH3 M.outs hlab,M.to,fun h=>?_⟩;cases S with
   |nil=>rfl
   |cons e r=>
    obtain⟨x,n⟩:=e;cases x with
    |nil=>cases h
    |cons c t=>rfl
  have hexp:exp D1 s=zAd S:=by
   rw[exp,zAd,zGw S arcs,hs,M.outs,←zGv,hfl]
  have hlen:D1.length=b1.length:=M.inv.len;have hold:∀i,D[i]?=some (zAd S)→b1=b∧D1=D∧b[i]?=some s:=fun i hi=>by
   have hil:=(List.getElem?_eq_some_iff.1 hi).1;obtain⟨t,ht⟩:∃t,b[i]?=some t:=⟨b[i]'(by have:=hI.len;omega),List.getElem?_eq_getElem _⟩;obtain⟨e1,e2,ct⟩:=hI.row i t ht;rw[hi]at e1;have e1':zAd S=exp D t:=Option.some.inj e1;obtain⟨g1,g2⟩:=zLq hI.lv ct;rw[←e1',zAd,zD4,zIe]at g2;have hall:∀p∈grp (zAj S),zAd p.2∈D:=fun p hp=>by
    (have hp':(p.1,zAi (-least S) p.2)∈outs D t.arcs:=by rw[←g2];exact List.mem_map.2 ⟨p,hp,rfl⟩);obtain⟨a,ha,hae⟩:=List.mem_map.1 hp';have hal:=ct.to a ha;rw[List.getElem?_eq_getElem hal]at hae;simp only[Option.getD_some,Prod.mk.injEq]at hae;have hv:=hI.lv _ (List.getElem_mem hal);have:zAd p.2=D[a.to]:=by
     rw[←zFa (-least S) (hgg p hp).1,←hae.2,zFa _ hv.1,level_of hv.2]
    rw[this];exact List.getElem_mem _
   obtain⟨h1,h2⟩:=M.old hall;refine⟨h1,h2,?_⟩;rw[h2]at hexp hcan;rw[ht,zXl hI.nd hI.lv ct hcan (e1'.symm.trans hexp.symm)]
  unfold zDg;by_cases hmem:s∈b1
  · rw[if_pos hmem]
    have hidx:=List.idxOf_lt_length_of_mem hmem;(have hat:b1[b1.idxOf s]?=some s:=by rw[List.getElem?_eq_getElem hidx,List.getElem_idxOf]);obtain⟨e1,_,_⟩:=M.inv.row _ s hat;rw[hexp]at e1;refine⟨D1,M.inv,M.ext,e1,fun i hi=>?_,fun R hR=>?_,fun R hR=>?_⟩
    · obtain⟨h1,h2,h3⟩:=hold i hi
      refine⟨?_,h2⟩;subst h1;rw[h2]at e1;have hi2:=(List.getElem?_eq_some_iff.1 hi).1;have hi3:=(List.getElem?_eq_some_iff.1 e1).1;have:b1.idxOf s=i:=zGq hI.nd hi3 hi2 (by rw[e1,hi]);rw[this]
    · rcases M.sub R hR with h|⟨p,hp,h⟩
      · exact .inl h
      · exact .inr (.step hp h)
    · cases hR with
      |here=>exact List.mem_of_getElem? e1
      |step hp h=>exact M.all _ hp R h
  · rw[if_neg hmem]
    have hnew:zAd S∉D1:=fun h=>by
     obtain⟨j,hj⟩:=List.mem_iff_getElem?.1 h;have hjl:=(List.getElem?_eq_some_iff.1 hj).1;obtain⟨t,ht⟩:∃t,b1[j]?=some t:=⟨b1[j]'(by omega),List.getElem?_eq_getElem _⟩;obtain⟨e1,_,ct⟩:=M.inv.row j t ht;rw[hj]at e1;have:s=t:=zXl M.inv.nd M.inv.lv hcan ct (hexp.trans (Option.some.inj e1));exact hmem (this▸List.mem_of_getElem? ht)
    have hpre:D1<+:D1++[zAd S]:=List.prefix_append _ _;refine⟨D1++[zAd S],⟨by simp[hlen],fun i t hi=>?_,?_,fun R hR=>?_⟩,M.ext.trans hpre,?_,fun i hi=>?_,fun R hR=>?_,fun R hR=>?_⟩
    · by_cases hib:i<b1.length
      · rw[List.getElem?_append_left hib]at hi
        obtain⟨e1,e2,ct⟩:=M.inv.row i t hi;refine⟨?_,e2,ct.pre hpre⟩;rw[zK4 hpre (by omega),e1,zIl hpre ct.to]
      · rw[List.getElem?_append_right (by omega)]at hi
        cases hi0:i-b1.length with
        |zero=>
         rw[hi0]at hi;simp only[List.getElem?_cons_zero,Option.some.injEq]at hi;subst hi;refine⟨?_,fun a ha=>by have:=hcan.to a ha;omega,hcan.pre hpre⟩;rw[zIl hpre hcan.to,hexp,List.getElem?_append_right (by omega),hlen,hi0];rfl
        |succ j=>rw[hi0]at hi;simp at hi
    · rw[List.nodup_append]
      exact⟨M.inv.nd,by simp,fun a ha c hc=>by rw[List.mem_singleton.1 hc];exact fun e=>hnew (e▸ha)⟩
    · rcases List.mem_append.1 hR with h|h
      · exact M.inv.lv R h
      · rw[List.mem_singleton.1 h]
        exact⟨zHh.2 hG.1,zFb hG.1⟩
    · rw[List.getElem?_append_right (by omega),hlen]
      simp
    · obtain⟨h1,_,h3⟩:=hold i hi
      rw[h1]at hmem;exact absurd (List.mem_of_getElem? h3) hmem
    · rcases List.mem_append.1 hR with h|h
      · rcases M.sub R h with h|⟨p,hp,h⟩
        · exact .inl h
        · exact .inr (.step hp h)
      · rw[List.mem_singleton.1 h]
        exact .inr (.here S)
    · cases hR with
      |here=>simp
      |step hp h=>exact List.mem_append_left _ (M.all _ hp R h)
end Fm
section
open Go.RowKit Nums
theorem zHc(r:Int)(w:World)(ht:Tabs w):Calls Tryz.prog 172 #[.int .i32 r] w fun e w'=>e = .returned (.int .i64 (sz r))∧w'=w:=by
 obtain⟨_,_,_,_,_,t2,t3,t4⟩:=ht;go_enter Tryz.func172,Tryz.ntmps172;go_wp2
 go_loop [3] (fun n=>∃k:Nat,1≤k∧k≤4∧n = .int .i64 k∧(2≤k→128≤r)∧(3≤k→2048≤r)∧(4≤k→65536≤r)) (fun n=>4-(intOf n).toNat)
 case atStart=>exact⟨1,by omega,by omega,rfl,by omega,by omega,by omega⟩
 case round=>
  obtain⟨k,hk1,hk4,rfl,g2,g3,g4⟩:=hrel;obtain rfl|rfl|rfl|rfl:k=1∨k=2∨k=3∨k=4:=by omega
  · by_cases h:128≤r
    · go_wp2
      go_round
      (case rel=>exact⟨2,by omega,by omega,rfl,by omega,by omega,by omega⟩);case measure=>simp[intOf]
    · go_wp2
      go_ret;exact⟨zBx (by unfold sz;repeat' split;all_goals omega),rfl⟩
  · by_cases h:2048≤r
    · go_wp2
      go_round
      (case rel=>exact⟨3,by omega,by omega,rfl,by omega,by omega,by omega⟩);case measure=>simp[intOf]
    · go_wp2
      go_ret;exact⟨zBx (by unfold sz;repeat' split;all_goals omega),rfl⟩
  · by_cases h:65536≤r
    · go_wp2
      go_round
      (case rel=>exact⟨4,by omega,by omega,rfl,by omega,by omega,by omega⟩);case measure=>simp[intOf]
    · go_wp2
      go_ret;exact⟨zBx (by unfold sz;repeat' split;all_goals omega),rfl⟩
  · go_wp2
    go_ret;exact⟨zBx (by unfold sz;repeat' split;all_goals omega),rfl⟩
theorem zF3:(Tryz.prog.info? 5).map (fun i=>(i.zero,i.size,i.bytes))=some (some (.int .u8 0),1,1):=by kernel_rfl
def Bytes(B:Nat)(w:World)(v:Value)(xs:List Int):Prop:=w.ownsRow B 5 1 v xs.length (xs.map (Value.int .u8))
theorem zN9(B:Nat)(vb:Value)(xs:List Int)(r:Int)(w:World)(ht:Tabs w)(hown:Bytes B w vb xs)(hB:B≤w.heap.size)(hl:xs.length+4≤140737488355328)(h0:0≤r)(h1:r<128):
 Calls Tryz.prog 154 #[vb,.int .i32 r] w fun e w'=>∃v',e = .returned v'∧Bytes B w' v' (xs++[r])∧Below B w w':=by
 have HS:Hid (sz r=1):=sz1 h0 h1;obtain⟨i0,hi,hz0,hz1,hz2⟩:=info_parts zF3;obtain⟨c2,c3,c4,c1,t1,t2,t3,t4⟩:=id ht;have b2:=zAn c2;have htA:∀o,Tabs (w.alloc o):=fun o=>ht.below ((Below.refl _ _).alloc (Nat.le_refl _) o)
 have HTA:Hid (∀o,Tabs (w.alloc o)):=htA;clear htA;go_enter Tryz.func154,Tryz.ntmps154;go_wp2_with (first|(go_at_call 172;refine(zHc _ _ (HTA.out _)).mono ?_;rintro e w' ⟨rfl,rfl⟩;rw[HS.out]));refine wp_loop_rounds 1 ?_;rw[rounds_succ];go_wp2_with (at_builtin;refine wpList_append_own _ rfl _ _ 237 rfl B 5 i0 (.int .u8 0) 1 1 Tryz.underlying237 hi hz0 hz1 hz2 rfl (by decide) _ _ _ rfl (World.ownsRow.alloc hown _) ⟨w.heap.size,0,none⟩ 1 4 [.int .u8 (r)] rfl rfl ?c1 ?c2 ?c3 ?c4 ?c5 ?_)
 case c1=>
  intro j u hj
  match j,hj with
  |0,hj=>simp at hj;subst hj;simp[Addr.add]
 case c2=>intro u hu;simp at hu;subst hu;rfl
 case c3=>unfold maxLen;omega
 case c4=>omega
 case c5=>simp;omega
 intro v' w1 hown' hgrow _;have hb:Below B w w1:=((Below.refl B w).alloc hB _).grown hgrow (by simp;omega) (fun k hk=>(World.ownsRow.lt hown k hk).1);have hown2:Bytes B w1 v' (xs++[r]):=by unfold Bytes;simpa using hown'
 clear hown' hgrow hown;go_wp2;go_ret;exact⟨_,rfl,hown2,hb⟩
theorem zN8(B:Nat)(vb:Value)(xs:List Int)(r:Int)(w:World)(ht:Tabs w)(hown:Bytes B w vb xs)(hB:B≤w.heap.size)(hl:xs.length+4≤140737488355328)(h0:128≤r)(h1:r<2048):
 Calls Tryz.prog 154 #[vb,.int .i32 r] w fun e w'=>∃v',e = .returned v'∧Bytes B w' v' (xs++[192+r/64,128+r%64])∧Below B w w':=by
 have HS:Hid (sz r=2):=sz2 h0 h1;obtain⟨i0,hi,hz0,hz1,hz2⟩:=info_parts zF3;obtain⟨c2,c3,c4,c1,t1,t2,t3,t4⟩:=id ht;have b2:=zAn c2;have htA:∀o,Tabs (w.alloc o):=fun o=>ht.below ((Below.refl _ _).alloc (Nat.le_refl _) o)
 have HTA:Hid (∀o,Tabs (w.alloc o)):=htA;clear htA;go_enter Tryz.func154,Tryz.ntmps154;go_wp2_with (first|(go_at_call 172;refine(zHc _ _ (HTA.out _)).mono ?_;rintro e w' ⟨rfl,rfl⟩;rw[HS.out]));refine wp_loop_rounds 2 ?_;rw[rounds_succ];go_wp2;rw[rounds_succ];go_wp2_with (at_builtin;refine wpList_append_own _ rfl _ _ 237 rfl B 5 i0 (.int .u8 0) 1 1 Tryz.underlying237 hi hz0 hz1 hz2 rfl (by decide) _ _ _ rfl (World.ownsRow.alloc hown _) ⟨w.heap.size,0,none⟩ 2 4 [.int .u8 (192+r/64),.int .u8 (128+r%64)] rfl rfl ?c1 ?c2 ?c3 ?c4 ?c5 ?_)
 case c1=>
  intro j u hj
  match j,hj with
  |0,hj=>simp at hj;subst hj;simp[Addr.add]
  |1,hj=>simp at hj;subst hj;simp[Addr.add]
 case c2=>intro u hu;simp at hu;rcases hu with rfl|rfl<;>rfl
 case c3=>unfold maxLen;omega
 case c4=>omega
 case c5=>simp;omega
 intro v' w1 hown' hgrow _;have hb:Below B w w1:=((Below.refl B w).alloc hB _).grown hgrow (by simp;omega) (fun k hk=>(World.ownsRow.lt hown k hk).1);have hown2:Bytes B w1 v' (xs++[192+r/64,128+r%64]):=by unfold Bytes;simpa using hown'
 clear hown' hgrow hown;go_wp2;go_ret;exact⟨_,rfl,hown2,hb⟩
theorem zN7(B:Nat)(vb:Value)(xs:List Int)(r:Int)(w:World)(ht:Tabs w)(hown:Bytes B w vb xs)(hB:B≤w.heap.size)(hl:xs.length+4≤140737488355328)(h0:2048≤r)(h1:r<65536):
 Calls Tryz.prog 154 #[vb,.int .i32 r] w fun e w'=>∃v',e = .returned v'∧Bytes B w' v' (xs++[224+r/64/64,128+r/64%64,128+r%64])∧Below B w w':=by
 have HS:Hid (sz r=3):=sz3 h0 h1;obtain⟨i0,hi,hz0,hz1,hz2⟩:=info_parts zF3;obtain⟨c2,c3,c4,c1,t1,t2,t3,t4⟩:=id ht;have b2:=zAn c2;have htA:∀o,Tabs (w.alloc o):=fun o=>ht.below ((Below.refl _ _).alloc (Nat.le_refl _) o)
 have HTA:Hid (∀o,Tabs (w.alloc o)):=htA;clear htA;go_enter Tryz.func154,Tryz.ntmps154;go_wp2_with (first|(go_at_call 172;refine(zHc _ _ (HTA.out _)).mono ?_;rintro e w' ⟨rfl,rfl⟩;rw[HS.out]));refine wp_loop_rounds 3 ?_;rw[rounds_succ];go_wp2;rw[rounds_succ];go_wp2;rw[rounds_succ];go_wp2_with (at_builtin;refine wpList_append_own _ rfl _ _ 237 rfl B 5 i0 (.int .u8 0) 1 1 Tryz.underlying237 hi hz0 hz1 hz2 rfl (by decide) _ _ _ rfl (World.ownsRow.alloc hown _) ⟨w.heap.size,0,none⟩ 3 4 [.int .u8 (224+r/64/64),.int .u8 (128+r/64%64),.int .u8 (128+r%64)] rfl rfl ?c1 ?c2 ?c3 ?c4 ?c5 ?_)
 case c1=>
  intro j u hj
  match j,hj with
  |0,hj=>simp at hj;subst hj;simp[Addr.add]
  |1,hj=>simp at hj;subst hj;simp[Addr.add]
  |2,hj=>simp at hj;subst hj;simp[Addr.add]
 case c2=>intro u hu;simp at hu;rcases hu with rfl|rfl|rfl<;>rfl
 case c3=>unfold maxLen;omega
 case c4=>omega
 case c5=>simp;omega
 intro v' w1 hown' hgrow _;have hb:Below B w w1:=((Below.refl B w).alloc hB _).grown hgrow (by simp;omega) (fun k hk=>(World.ownsRow.lt hown k hk).1);have hown2:Bytes B w1 v' (xs++[224+r/64/64,128+r/64%64,128+r%64]):=by unfold Bytes;simpa using hown'
 clear hown' hgrow hown;go_wp2;go_ret;exact⟨_,rfl,hown2,hb⟩
theorem zN6(B:Nat)(vb:Value)(xs:List Int)(r:Int)(w:World)(ht:Tabs w)(hown:Bytes B w vb xs)(hB:B≤w.heap.size)(hl:xs.length+4≤140737488355328)(h0:65536≤r)(h1:r<1114112):
 Calls Tryz.prog 154 #[vb,.int .i32 r] w fun e w'=>∃v',e = .returned v'∧Bytes B w' v' (xs++[240+r/64/64/64,128+r/64/64%64,128+r/64%64,128+r%64])∧Below B w w':=by
 have HS:Hid (sz r=4):=sz4 h0 h1;obtain⟨i0,hi,hz0,hz1,hz2⟩:=info_parts zF3;obtain⟨c2,c3,c4,c1,t1,t2,t3,t4⟩:=id ht;have b2:=zAn c2;have htA:∀o,Tabs (w.alloc o):=fun o=>ht.below ((Below.refl _ _).alloc (Nat.le_refl _) o)
 have HTA:Hid (∀o,Tabs (w.alloc o)):=htA;clear htA;go_enter Tryz.func154,Tryz.ntmps154;go_wp2_with (first|(go_at_call 172;refine(zHc _ _ (HTA.out _)).mono ?_;rintro e w' ⟨rfl,rfl⟩;rw[HS.out]));refine wp_loop_rounds 4 ?_;rw[rounds_succ];go_wp2;rw[rounds_succ];go_wp2;rw[rounds_succ];go_wp2;rw[rounds_succ];go_wp2_with (at_builtin;refine wpList_append_own _ rfl _ _ 237 rfl B 5 i0 (.int .u8 0) 1 1 Tryz.underlying237 hi hz0 hz1 hz2 rfl (by decide) _ _ _ rfl (World.ownsRow.alloc hown _) ⟨w.heap.size,0,none⟩ 4 4 [.int .u8 (240+r/64/64/64),.int .u8 (128+r/64/64%64),.int .u8 (128+r/64%64),.int .u8 (128+r%64)] rfl rfl ?c1 ?c2 ?c3 ?c4 ?c5 ?_)
 case c1=>
  intro j u hj
  match j,hj with
  |0,hj=>simp at hj;subst hj;simp[Addr.add]
  |1,hj=>simp at hj;subst hj;simp[Addr.add]
  |2,hj=>simp at hj;subst hj;simp[Addr.add]
  |3,hj=>simp at hj;subst hj;simp[Addr.add]
 case c2=>intro u hu;simp at hu;rcases hu with rfl|rfl|rfl|rfl<;>rfl
 case c3=>unfold maxLen;omega
 case c4=>omega
 case c5=>simp;omega
 intro v' w1 hown' hgrow _;have hb:Below B w w1:=((Below.refl B w).alloc hB _).grown hgrow (by simp;omega) (fun k hk=>(World.ownsRow.lt hown k hk).1);have hown2:Bytes B w1 v' (xs++[240+r/64/64/64,128+r/64/64%64,128+r/64%64,128+r%64]):=by unfold Bytes;simpa using hown'
 clear hown' hgrow hown;go_wp2;go_ret;exact⟨_,rfl,hown2,hb⟩
theorem zJf(B:Nat)(vb:Value)(xs:List Int)(r:Int)(w:World)(ht:Tabs w)(hown:Bytes B w vb xs)(hB:B≤w.heap.size)(hl:xs.length+4≤140737488355328)(h0:0≤r)(h1:r<1114112):
 Calls Tryz.prog 154 #[vb,.int .i32 r] w fun e w'=>∃v',e = .returned v'∧Bytes B w' v' (xs++wrI r)∧Below B w w':=by
 by_cases a:r<128
 · rw[wrI1 a];exact zN9 B vb xs r w ht hown hB hl h0 a
 by_cases b:r<2048
 · rw[wrI2 (by omega) b];exact zN8 B vb xs r w ht hown hB hl (by omega) b
 by_cases c:r<65536
 · rw[wrI3 (by omega) c];exact zN7 B vb xs r w ht hown hB hl (by omega) c
 · rw[wrI4 (by omega)];exact zN6 B vb xs r w ht hown hB hl (by omega) h1
def Row(w:World)(v:Value)(xs:List Int):Prop:=
 ∃ao cap,v = .slice ao xs.length cap∧(0<xs.length→∃b off,ao=some ⟨b,off,none⟩∧∀i,i<xs.length→w.cell? ⟨b,off+i,none⟩=some (.int .i32 (xs.getD i 0)))
theorem Bytes.back{B:Nat}{w:World}{v:Value}{xs:List Int}(h:Bytes B w v xs):(convert 237 9 v).run Tryz.prog w = .ok (.string (strOfNums xs)) w:=by
 obtain⟨hl,hn|⟨g,cap,cur,rfl,hb,hg,h1,h2,h3,h4⟩⟩:=h
 · obtain⟨rfl,h0⟩:=hn
   have e:xs=[]:=List.length_eq_zero_iff.1 h0;subst e;exact run_convert_bytes_nil w 237 5 Tryz.underlying237 Tryz.underlying5 0 0 9 Tryz.underlying9
 · refine run_convert_bytes_arg w 237 5 Tryz.underlying237 Tryz.underlying5 g 0 xs.length cap xs rfl (fun i hi=>?_) 9 Tryz.underlying9
   have hc:cur[i]?=some (.int .u8 (xs.getD i 0)):=by
    (have e:(cur.toList.take (xs.length*1))[i]?=(xs.map (Value.int .u8))[i]?:=by rw[h4]);rw[List.getElem?_take,if_pos (by omega)]at e;rw[←Array.getElem?_toList,e,List.getElem?_map,List.getElem?_eq_getElem hi];simp[List.getD_eq_getElem?_getD,List.getElem?_eq_getElem hi]
   simp only[World.cell?,hg,Nat.zero_add];simpa using hc
def allR(xs:List Int):Bool:=xs.all isR
def zAw(xs:List Int):ByteArray:=if allR xs=true then strOfNums (xs.flatMap wrI)else ByteArray.empty
theorem zLn(xs:List Int):(xs.flatMap wrI).length≤4*xs.length:=by
 induction xs with
 |nil=>simp
 |cons x r ih=>have:=zKh x;rw[List.flatMap_cons,List.length_append,List.length_cons];omega
theorem zUl(xs:List Int)(k:Nat)(h:k<xs.length):xs.take (k+1)=xs.take k++[xs.getD k 0]:=by
 rw[List.take_succ_eq_append_getElem h];simp[List.getD_eq_getElem?_getD,List.getElem?_eq_getElem h]
theorem text_no{xs:List Int}{k:Nat}(h:k<xs.length)(hr:isR (xs.getD k 0)=false):allR xs=false:=by
 have hm:xs.getD k 0∈xs:=by simp[List.getD_eq_getElem?_getD,List.getElem?_eq_getElem h]
 cases e:allR xs
 · rfl
 · have:=List.all_eq_true.1 e _ hm;rw[hr]at this;cases this
theorem zWu{r:Int}(h:isR r=true):0≤r∧r<1114112:=by
 have:=of_decide_eq_true h;omega
theorem zL1(v:Value)(xs:List Int)(w:World)(ht:Tabs w)(hrow:Row w v xs)(hl:xs.length*4≤140737488355328):
 Calls Tryz.prog 131 #[v] w fun e w'=>e = .returned (.tuple #[.string (zAw xs),.bool (allR xs)])∧Below w.heap.size w w':=by
 obtain⟨i0,hi,hz0,hz1,hz2⟩:=info_parts zF3;obtain⟨ao,cap,rfl,hcells⟩:=hrow;have HC:Hid (0<xs.length→∃b off,ao=some ⟨b,off,none⟩∧∀i,i<xs.length→w.cell? ⟨b,off+i,none⟩=some (.int .i32 (xs.getD i 0))):=hcells;clear hcells;go_enter Tryz.func131,Tryz.ntmps131;go_wp2_with (at_make;refine wpList_make_own _ rfl _ _ 237 rfl w.heap.size 5 i0 (.int .u8 0) 1 Tryz.underlying237 hi hz0 hz1 _ _ _ xs.length rfl rfl (by omega) (by rw[hz2];omega) (by unfold maxLen;omega) (Nat.le_refl _) ?_;intro w0 hown0 hgrow0);have hb0:Below w.heap.size w w0:=(Below.refl _ _).grown hgrow0 (Nat.le_refl _) (fun k hk=>by cases hk);have HO0:Hid (Bytes w.heap.size w0 (.slice (some ⟨w.heap.size,0,none⟩) 0 xs.length) []):=hown0;clear hown0 hgrow0
 go_loopw [4,12] (fun vb i wr=>∃k:Nat,k≤xs.length∧i = .int .i64 k∧Bytes w.heap.size wr vb ((xs.take k).flatMap wrI)∧allR (xs.take k)=true∧Below w.heap.size w wr)
  (fun _ i _=>xs.length-(intOf i).toNat)
 case atStart=>exact⟨0,Nat.zero_le _,rfl,HO0.out,rfl,hb0⟩
 case round=>
  obtain⟨k,hk,rfl,hown,hall,hbel⟩:=hrel;have HA:Hid (allR (xs.take k)=true):=hall;clear hall;have htr:Tabs wr:=ht.below hbel;by_cases hlt:k<xs.length
  · obtain⟨b,off,rfl,hc⟩:=HC.out (by omega)
    have hck:wr.cell? ⟨b,off+k,none⟩=some (.int .i32 (xs.getD k 0)):=by
     rw[hbel.cell (p:=⟨b,off+k,none⟩) (zAn (hc k hlt))];exact hc k hlt
    clear hc HC HO0;have hnx:=zUl xs k hlt;generalize hx:xs.getD k 0=x at *;have HX:Hid (xs.getD k 0=x):=hx;have HN:Hid (xs.take (k+1)=xs.take k++[x]):=hnx;clear hnx hx;cases hr:isR x
    · have HR:Hid (isR x=false):=hr
      clear hr;have HF:Hid (allR xs=false):=text_no hlt (by rw[HX.out];exact HR.out);go_wp2_with (go_at_call 89;refine(zDj _ _).mono ?_;rintro e w' ⟨rfl,rfl⟩;rw[HR.out]);go_ret2;refine⟨?_,hbel⟩;rw[HF.out,show zAw xs=ByteArray.empty by unfold zAw;rw[HF.out];rfl];rfl
    · have HR:Hid (isR x=true):=hr
      clear hr;have hbd:=zWu HR.out;have hfl:=zLn (xs.take k);rw[List.length_take]at hfl
      go_wp2_with (first
       |(go_at_call 89;refine(zDj _ _).mono ?_;rintro e w' ⟨rfl,rfl⟩;rw[HR.out])
       |(go_at_call 154;refine(zJf w.heap.size _ ((xs.take k).flatMap wrI) x _ htr hown hbel.size (by omega) hbd.1 hbd.2).mono ?_;rintro e w1 ⟨v1,rfl,hown1,hb1⟩))
      go_roundw
      case rel=>
       refine⟨k+1,by omega,by go_num,?_,?_,hbel.trans hb1⟩
       · rw[HN.out,List.flatMap_append];simpa using hown1
       · rw[HN.out];have:=HA.out;unfold allR at *;rw[List.all_append,this];simp[HR.out]
      case measure=>simp[intOf];omega
  · obtain rfl:k=xs.length:=by omega
    have hfull:xs.take xs.length=xs:=List.take_length;(have HO:Hid (Bytes w.heap.size wr u4 (xs.flatMap wrI)):=by rw[hfull]at hown;exact hown);(have HF:Hid (allR xs=true):=by have:=HA.out;rw[hfull]at this;exact this);have hconv:=HO.out.back;clear hfull hown HA;go_wp2;go_ret2;refine⟨?_,hbel⟩;rw[HF.out,show zAw xs=strOfNums (xs.flatMap wrI)by unfold zAw;rw[HF.out];rfl];rfl
theorem Made.row{B:Nat}{w:World}{v:Value}{xs:List Int}(h:Made B w v xs):Row w v xs:=by
 obtain⟨hl,hn|⟨g,cap,cur,rfl,hb,hg,h1,h2,h3,h4⟩⟩:=h
 · obtain⟨rfl,h0⟩:=hn
   refine⟨none,0,by rw[h0],fun h=>by omega⟩
 · refine⟨_,_,rfl,fun _=>⟨g,0,rfl,fun i hi=>?_⟩⟩
   have hc:cur[i]?=some (.int .i32 (xs.getD i 0)):=by
    (have e:(cur.toList.take (xs.length*1))[i]?=(xs.map (Value.int .i32))[i]?:=by rw[h4]);rw[List.getElem?_take,if_pos (by omega)]at e;rw[←Array.getElem?_toList,e,List.getElem?_map,List.getElem?_eq_getElem hi];simp[List.getD_eq_getElem?_getD,List.getElem?_eq_getElem hi]
   simp only[World.cell?,hg,Nat.zero_add];simpa using hc
theorem Row.below{w w':World}{v:Value}{xs:List Int}(h:Row w v xs)(hb:Below w.heap.size w w'):Row w' v xs:=by
 obtain⟨ao,cap,rfl,hc⟩:=h;refine⟨ao,cap,rfl,fun h0=>?_⟩;obtain⟨b,off,rfl,hd⟩:=hc h0;exact⟨b,off,rfl,fun i hi=>(hb.cell (p:=⟨b,off+i,none⟩) (zAn (hd i hi))).trans (hd i hi)⟩
end
namespace Nums
def sd(l:List UInt8)(n:Nat):Int:=
 if n=1 then bt l 0 else if n=2 then bt l 0%32*64+bt l 1%64
 else if n=3 then (bt l 0%16*64+bt l 1%64)*64+bt l 2%64
 else ((bt l 0%8*64+bt l 1%64)*64+bt l 2%64)*64+bt l 3%64
theorem sd1(l:List UInt8):sd l 1=bt l 0:=rfl
theorem sd2(l:List UInt8):sd l 2=bt l 0%32*64+bt l 1%64:=rfl
theorem sd3(l:List UInt8):sd l 3=(bt l 0%16*64+bt l 1%64)*64+bt l 2%64:=rfl
theorem sd4(l:List UInt8):sd l 4=((bt l 0%8*64+bt l 1%64)*64+bt l 2%64)*64+bt l 3%64:=rfl
theorem rd_zero{l:List UInt8}(h:(rd l).2=0):rd l=(0,0):=by
 revert h;unfold rd;by_cases c1:bt l 0<128
 · rw[if_pos c1];intro h;cases h
 rw[if_neg c1]
 split
 · intro h;cases h
 split
 · intro h;cases h
 split
 · intro h;cases h
 intro _;rfl
theorem rd_said{l:List UInt8}(h:(rd l).2≠0):(rd l).1=sd l (rd l).2:=by
 have c0:=zYf l 0;revert h;unfold rd;by_cases c1:bt l 0<128
 · rw[if_pos c1];intro _;exact(sd1 l).symm
 rw[if_neg c1]
 split
 · rename_i c;intro _
   show acc 192 l 2=sd l 2;rw[acc2,sd2];omega
 split
 · rename_i c;intro _
   show acc 224 l 3=sd l 3;rw[acc3,sd3];omega
 split
 · rename_i c;intro _
   show acc 240 l 4=sd l 4;rw[acc4,sd4];omega
 intro h;exact absurd rfl h
theorem zXj{l:List UInt8}{n:Nat}(hn:n≤l.length)(hr:isR (sd l n)=true)(hw:wr (sd l n)=l.take n):rd l=(sd l n,n):=by
 have h:=rd_wr hr (l.drop n);rw[hw,List.take_append_drop]at h;rw[h];have:(wr (sd l n)).length=(l.take n).length:=by rw[hw]
 rw[zMc,List.length_take]at this;rw[this,Nat.min_eq_left hn]
theorem zRs{l:List UInt8}(hl:l≠[]){n:Nat}(h1:1≤n)(h:¬(isR (sd l n)=true∧wr (sd l n)=l.take n)):(rd l).2≠n:=by
 intro e;have h0:(rd l).2≠0:=by omega
 have hs:=rd_said h0;rw[e]at hs;obtain⟨hr,hlen,hb⟩:=zVa hl (r:=sd l n) (n:=n) (Prod.ext hs e) (by omega);refine h ⟨hr,?_⟩;have e2:l.take n=(wr (sd l n)++l.drop n).take n:=congrArg (List.take n) hb;rw[e2,List.take_append_of_le_length (by rw[zMc];omega),List.take_of_length_le (by rw[zMc];omega)]
theorem sd_bd(l:List UInt8)(n:Nat):0≤sd l n∧sd l n<2097152:=by
 have c0:=zYf l 0;unfold sd;by_cases h1:n=1
 · rw[if_pos h1];omega
 rw[if_neg h1];by_cases h2:n=2
 · rw[if_pos h2];omega
 rw[if_neg h2];by_cases h3:n=3
 · rw[if_pos h3];omega
 rw[if_neg h3];omega
end Nums
section
open Go.RowKit Nums
attribute [local go_sem ↓] Go.wp_at_zero Go.wp_at_succ
theorem Rune_any(r:Int)(w:World):Calls Tryz.prog 117 #[.int .i64 r] w fun e w'=>e = .returned (.bool (isR r))∧w'=w:=by
 by_cases h0:0≤r
 · by_cases h1:r≤1114111
   · by_cases h2:r<55296
     · go_enter Tryz.func117,Tryz.ntmps117
       go_wp2;go_ret;exact⟨zCh (by first|(rw[zE3 (by omega)])|(rw[zEe (by omega)])),rfl⟩
     · by_cases h3:57343<r
       all_goals
        go_enter Tryz.func117,Tryz.ntmps117;go_wp2;go_ret;exact⟨zCh (by first|(rw[zE3 (by omega)])|(rw[zEe (by omega)])),rfl⟩
   · go_enter Tryz.func117,Tryz.ntmps117
     go_wp2;go_ret;exact⟨zCh (by first|(rw[zE3 (by omega)])|(rw[zEe (by omega)])),rfl⟩
 · go_enter Tryz.func117,Tryz.ntmps117
   go_wp2;go_ret;exact⟨zCh (by first|(rw[zE3 (by omega)])|(rw[zEe (by omega)])),rfl⟩
theorem zHp(w:World)(xs:List Int)(n:Nat)(hn:xs.length=n):
 (convert 237 9 (.slice (some ⟨w.heap.size,0,none⟩) n n)).run Tryz.prog (w.alloc (.cells (xs.map (Value.int .u8)).toArray 5)) = .ok (.string (strOfNums xs)) (w.alloc (.cells (xs.map (Value.int .u8)).toArray 5)):=by
 refine run_convert_bytes_arg _ 237 5 Tryz.underlying237 Tryz.underlying5 w.heap.size 0 n n xs hn (fun i hi=>?_) 9 Tryz.underlying9;rw[Nat.zero_add,World.cell?_alloc_new];subst hn;simp[List.getD_eq_getElem?_getD,List.getElem?_eq_getElem hi]
theorem zOb(r:Int)(w:World)(hr:isR r=true):Calls Tryz.prog 118 #[.int .i64 r] w fun e w'=>e = .returned (.string (strOfNums (wrI r)))∧Below w.heap.size w w':=by
 have hbd:=zWu hr;clear hr;by_cases a:r<128
 · have h:=zHp w [r] 1 rfl
   simp only[List.map]at h;have HW:Hid (wrI r=[r]):=wrI1 a;go_enter Tryz.func118,Tryz.ntmps118;go_wp2;go_ret;exact⟨by rw[HW.out];rfl,(Below.refl _ _).alloc (Nat.le_refl _) _⟩
 by_cases b:r<2048
 · have h:=zHp w [192+r/64,128+r%64] 2 rfl
   simp only[List.map]at h;have HW:Hid (wrI r=[192+r/64,128+r%64]):=wrI2 (by omega) b;go_enter Tryz.func118,Tryz.ntmps118;go_wp2;go_ret;exact⟨by rw[HW.out];rfl,(Below.refl _ _).alloc (Nat.le_refl _) _⟩
 by_cases c:r<65536
 · have h:=zHp w [224+r/4096,128+r/64%64,128+r%64] 3 rfl
   simp only[List.map]at h;have HW:Hid (wrI r=[224+r/4096,128+r/64%64,128+r%64]):=by
    show wrI r=_;rw[wrI3 (by omega) c,show r/64/64=r/4096 by omega]
   go_enter Tryz.func118,Tryz.ntmps118;go_wp2;go_ret;exact⟨by rw[HW.out];rfl,(Below.refl _ _).alloc (Nat.le_refl _) _⟩
 · have h:=zHp w [240+r/262144,128+r/4096%64,128+r/64%64,128+r%64] 4 rfl
   simp only[List.map]at h;have HW:Hid (wrI r=[240+r/262144,128+r/4096%64,128+r/64%64,128+r%64]):=by
    show wrI r=_;rw[wrI4 (by omega),show r/64/64/64=r/262144 by omega,show r/64/64=r/4096 by omega]
   go_enter Tryz.func118,Tryz.ntmps118;go_wp2;go_ret;exact⟨by rw[HW.out];rfl,(Below.refl _ _).alloc (Nat.le_refl _) _⟩
theorem zC7(s:ByteArray)(i:Nat)(h:i<s.size):((s[i]'h).toNat:Int)<256:=by have:=(s[i]'h).toNat_lt;omega
theorem zKt(s:ByteArray)(n:Nat)(w:World)(h1:1≤n)(h4:n≤4)(hn:n≤s.size)(hm:s.size≤9223372036854775807):
 Calls Tryz.prog 116 #[.string s,.int .i64 n] w fun e w'=>e = .returned (.int .i64 (sd s.data.toList n))∧w'=w:=by
 have HB:Hid (∀i (h:i<s.size),((s[i]'h).toNat:Int)=bt s.data.toList i):=zN2 s;obtain rfl|rfl|rfl|rfl:n=1∨n=2∨n=3∨n=4:=by omega
 · have q0:=zC7 s 0 (by omega)
   go_enter Tryz.func116,Tryz.ntmps116;go_wp2;go_ret;exact⟨zBx (by rw[sd1,HB.out 0 (by omega)]),rfl⟩
 · have q0:=zC7 s 0 (by omega)
   have q1:=zC7 s 1 (by omega);go_enter Tryz.func116,Tryz.ntmps116;go_wp2;refine wp_loop_rounds 2 ?_;rw[rounds_succ];go_wp2;rw[rounds_succ];go_wp2;go_ret;exact⟨zBx (by rw[sd2,HB.out 0 (by omega),HB.out 1 (by omega)]),rfl⟩
 · have q0:=zC7 s 0 (by omega)
   have q1:=zC7 s 1 (by omega);have q2:=zC7 s 2 (by omega);go_enter Tryz.func116,Tryz.ntmps116;go_wp2;refine wp_loop_rounds 3 ?_;rw[rounds_succ];go_wp2;rw[rounds_succ];go_wp2;rw[rounds_succ];go_wp2;go_ret;exact⟨zBx (by rw[sd3,HB.out 0 (by omega),HB.out 1 (by omega),HB.out 2 (by omega)]),rfl⟩
 · have q0:=zC7 s 0 (by omega)
   have q1:=zC7 s 1 (by omega);have q2:=zC7 s 2 (by omega);have q3:=zC7 s 3 (by omega);go_enter Tryz.func116,Tryz.ntmps116;go_wp2;refine wp_loop_rounds 4 ?_;rw[rounds_succ];go_wp2;rw[rounds_succ];go_wp2;rw[rounds_succ];go_wp2;rw[rounds_succ];go_wp2;go_ret;exact⟨zBx (by rw[sd4,HB.out 0 (by omega),HB.out 1 (by omega),HB.out 2 (by omega),HB.out 3 (by omega)]),rfl⟩
end
section
open Go.RowKit Nums
attribute [local go_sem ↓] Go.wp_at_zero Go.wp_at_succ
theorem zMb(r:Int):(strOfNums (wrI r)).toList=wr r:=by
 rw[ByteArray.toList_eq,strOfNums_data];rfl
theorem zJ5(s:ByteArray)(n:Nat):(s.extract 0 n).toList=s.data.toList.take n:=by
 rw[ByteArray.toList_eq];simp[ByteArray.extract,ByteArray.copySlice]
theorem zP6(r:Int)(w:World){b:Bool}(h:isR r=b):Calls Tryz.prog 117 #[.int .i64 r] w fun e w'=>e = .returned (.bool b)∧w'=w:=by
 rw[←h];exact Rune_any r w
theorem zOg(s:ByteArray)(w:World)(h0:0<s.size)(hm:s.size≤9223372036854775807):
 Calls Tryz.prog 81 #[.string s] w fun e w'=>e = .returned (.tuple #[.int .i64 (rd s.data.toList).1,.int .i64 (rd s.data.toList).2])∧Below w.heap.size w w':=by
 have HNE:Hid (s.data.toList≠[]):=zEr h0;have HBD:Hid ((rd s.data.toList).2≤s.data.toList.length∧(rd s.data.toList).2≤4):=zSz HNE.out;go_enter Tryz.func81,Tryz.ntmps81;go_wp2
 go_loopw [4] (fun i wr=>∃k:Nat,1≤k∧k≤5∧i = .int .i64 k∧(∀j,1≤j→j<k→(rd s.data.toList).2≠j)∧Below w.heap.size w wr) (fun i _=>5-(intOf i).toNat)
 case atStart=>exact⟨1,by omega,by omega,rfl,fun j a b=>by omega,Below.refl _ _⟩
 case round=>
  obtain⟨k,hk1,hk5,rfl,hno,hbel⟩:=hrel;have HNO:Hid (∀j,1≤j→j<k→(rd s.data.toList).2≠j):=hno;clear hno;by_cases hk:k≤4∧k≤s.size
  · obtain⟨hk4,hks⟩:=hk
    have hsb:=sd_bd s.data.toList k;generalize hx:sd s.data.toList k=x at *;have HX:Hid (sd s.data.toList k=x):=hx;clear hx;cases hr:isR x
    · have HR:Hid (isR x=false):=hr
      clear hr;have HF:Hid (∀j,1≤j→j<k+1→(rd s.data.toList).2≠j):=fun j a b=>by
       by_cases e:j=k
       · subst e;exact zRs HNE.out hk1 (fun h=>by have h2:=h.1;rw[HX.out,HR.out]at h2;cases h2)
       · exact HNO.out j a (by omega)
      go_wp2_with (go_at_call 116;refine(zKt s k _ hk1 hk4 hks hm).mono ?_;rintro e w' ⟨rfl,rfl⟩;rw[HX.out]);go_quiet ((go_at_call 117;exact Calls.quiet_of_same (zP6 _ _ HR.out)));go_wp2
      go_roundw
      (case rel=>exact⟨k+1,by omega,by omega,by go_num,HF.out,below_drewN hbel _⟩);case measure=>simp[intOf];omega
    · have HR:Hid (isR x=true):=hr
      clear hr;(have h1k:(k:Int)≤(s.size:Int):=by omega);(have h1k':(0:Int)≤(k:Int):=by omega);by_cases hw:Nums.wr x=s.data.toList.take k
      · have HW:Hid (Nums.wr x=s.data.toList.take k):=hw
        (have hq:((strOfNums (wrI x)).toList==(s.extract 0 k).toList)=true:=by rw[zMb,zJ5,hw];simp);clear hw;have HF:Hid (rd s.data.toList=(x,k)):=by
         have:=zXj (l:=s.data.toList) (n:=k) (by rw[zAk];exact hks) (by rw[HX.out];exact HR.out) (by rw[HX.out];exact HW.out);rw[HX.out]at this;exact this
        go_wp2_with (go_at_call 116;refine(zKt s k _ hk1 hk4 hks hm).mono ?_;rintro e w' ⟨rfl,rfl⟩;rw[HX.out])
        go_region_held3 (fun _=>True) (trivial) (first|(go_at_call 117;refine(zP6 _ _ HR.out).mono ?_;rintro e w' ⟨rfl,rfl⟩)|(go_at_call 118;refine(zOb _ _ HR.out).mono ?_;rintro e w3 ⟨rfl,hb3⟩))
        all_goals go_wp2
        all_goals go_ret2
        refine⟨?_,?_⟩
        · rw[HF.out];rfl
        · exact hbel.drew.trans (hb3.mono hbel.size)
      · have hq:((strOfNums (wrI x)).toList==(s.extract 0 k).toList)=false:=by rw[zMb,zJ5];simpa using hw
        have HW:Hid (¬Nums.wr x=s.data.toList.take k):=hw;clear hw;have HF:Hid (∀j,1≤j→j<k+1→(rd s.data.toList).2≠j):=fun j a b=>by
         by_cases e:j=k
         · subst e;exact zRs HNE.out hk1 (fun h=>by have h2:=h.2;rw[HX.out]at h2;exact HW.out h2)
         · exact HNO.out j a (by omega)
        go_wp2_with (go_at_call 116;refine(zKt s k _ hk1 hk4 hks hm).mono ?_;rintro e w' ⟨rfl,rfl⟩;rw[HX.out])
        go_region_held3 (fun _=>True) (trivial) (first|(go_at_call 117;refine(zP6 _ _ HR.out).mono ?_;rintro e w' ⟨rfl,rfl⟩)|(go_at_call 118;refine(zOb _ _ HR.out).mono ?_;rintro e w3 ⟨rfl,hb3⟩))
        all_goals go_wp2
        go_roundw
        (case rel=>exact⟨k+1,by omega,by omega,by go_num,HF.out,hbel.drew.trans (hb3.mono hbel.size)⟩);case measure=>simp[intOf];omega
  · have HZ:Hid (rd s.data.toList=(0,0)):=by
     refine rd_zero ?_;by_cases z:(rd s.data.toList).2=0
     · exact z
     · have h2:=HBD.out
       rw[zAk]at h2;exact absurd rfl (HNO.out (rd s.data.toList).2 (by omega) (by omega))
    by_cases hk4:k≤4
    · have hks:¬k≤s.size:=fun h=>hk ⟨hk4,h⟩
      clear hk;go_wp2;go_ret2;refine⟨?_,hbel⟩;rw[HZ.out];rfl
    · clear hk
      go_wp2;go_ret2;refine⟨?_,hbel⟩;rw[HZ.out];rfl
end
section
open Go.RowKit Nums
theorem zHa(s:ByteArray)(w:World)(hm:s.size≤9223372036854775807)(hroom:Room s.data.toList):
 Calls Tryz.prog 42 #[.string s] w fun e w'=>∃v,Below w.heap.size w w' ∧
  ((rs s.data.toList=none∧v = .slice none 0 0∧e = .returned (.tuple #[v,.bool false])) ∨
   ∃xs,rs s.data.toList=some xs∧e = .returned (.tuple #[v,.bool true])∧Made w.heap.size w' v xs):=by
 obtain⟨i0,hi,hz0,hz1,hz2⟩:=info_parts zRm;go_enter Tryz.func42,Tryz.ntmps42;go_wp2
 go_loopw [0,4] (fun t v wr=>∃(m:ByteArray) (pre:List Int),t = .string m∧m.size+pre.length≤s.size∧Made w.heap.size wr v pre∧zA0 s.data.toList m.data.toList pre∧Below w.heap.size w wr)
  (fun t _ _=>zTa t)
 case atStart=>exact⟨s,[],rfl,by simp,World.ownsRow_nil _ _ _ _,zGt _,Below.refl _ _⟩
 case round=>
  obtain⟨m,pre,rfl,hms,hown,hL,hbel⟩:=hrel;have HL:Hid (zA0 s.data.toList m.data.toList pre):=hL;clear hL;by_cases h0:0<m.size
  · have hne:=zEr h0
    have hbd:=zSz hne;rw[zAk]at hbd;have HNE:Hid (m.data.toList≠[]):=hne;clear hne;generalize hr:rd m.data.toList=q at hbd;obtain⟨r,n⟩:=q;have HR:Hid (rd m.data.toList=(r,n)):=hr;clear hr;simp only at hbd;by_cases hn:n=0
    · subst hn
      have HF:Hid (rs s.data.toList=none):=zIa HL.out HNE.out (by rw[HR.out]);go_wp2_with (go_at_call 81;refine(zOg _ _ h0 (by omega)).mono ?_;rintro e w2 ⟨rfl,hb2⟩;rw[HR.out]);go_ret2;exact⟨_,hbel.trans (hb2.mono hbel.size),.inl ⟨HF.out,rfl,rfl⟩⟩
    have hrb:0≤r∧r<1114112:=by
     have h2:=rd_isR (l:=m.data.toList) (by rw[HR.out];exact hn);rw[HR.out]at h2;exact zWu h2
    have hn0:((n:Int)==0)=false:=beq_eq_false_iff_ne.2 (by omega);have hrm:pre.length+1≤35184372088832:=hroom m.data.toList pre HL.out (by rw[zAk,zAk];exact hms) HNE.out (by rw[HR.out];exact hn)
    go_wp2_with (first
     |(go_at_call 81;refine(zOg _ _ h0 (by omega)).mono ?_;rintro e w2 ⟨rfl,hb2⟩;rw[HR.out])
     |(at_builtin;refine wpList_append_own _ rfl _ _ 104 rfl w.heap.size 21 i0 (.int .i32 0) 1 4 Tryz.underlying104 hi hz0 hz1 hz2 rfl (by decide) _ _ _ rfl (World.ownsRow.alloc (hown.below hb2) _) ⟨w2.heap.size,0,none⟩ 1 1 [.int .i32 r] rfl rfl ?c1 ?c2 ?c3 ?c4 ?c5 ?_))
    case c1=>
     intro j u hj
     match j,hj with
     |0,hj=>simp at hj;subst hj;exact zR2 w2 r
    (case c2=>intro u hu;simp at hu;subst hu;rfl);(case c3=>unfold maxLen;omega);(case c4=>omega);(case c5=>have:=hbel.size;have:=hb2.size;simp;omega);intro v' w1 hown' hgrow _;(have hown2:Made w.heap.size w1 v' (pre++[r]):=by unfold Made;simpa using hown');have hbw:Below w.heap.size w w2:=hbel.trans (hb2.mono hbel.size);have hb1:Below w.heap.size w w1:=(hbw.alloc hbw.size _).grown hgrow (by have:=hbw.size;simp;omega) (fun k hk=>(World.ownsRow.lt hown k hk).1);clear hown' hgrow hown;go_wp2
    go_roundw
    (case rel=>exact⟨m.extract n m.size,pre++[r],rfl,by rw[zBs];simp;omega,hown2,zO1 HL.out HNE.out HR.out hn,hb1⟩);case measure=>simp only[zTa];rw[zBs];omega
  · have HN:Hid (m.data.toList=[]):=zE9 h0
    have HF:Hid (rs s.data.toList=some pre):=zLh (by have:=HL.out;rw[HN.out]at this;exact this);go_wp2;go_ret2;exact⟨_,hbel,.inr ⟨pre,HF.out,rfl,hown⟩⟩
theorem drewN3(w:World)(a b c:Nat):∃n,((w.drewN a).drewN b).drewN c=w.drewN n:=⟨a+(b+c),by rw[World.drewN_drewN,World.drewN_drewN]⟩
theorem zY3(a b:ByteArray)(w:World)(ha:a.size≤9223372036854775807)(_:b.size≤9223372036854775807):
 Calls Tryz.prog 23 #[.string a,.string b] w fun e w'=>e = .returned (.bool (lexL (a.data.toList.map N) (b.data.toList.map N)))∧∃n,w'=w.drewN n:=by
 have HA:Hid (∀i (h:i<a.size),((a[i]'h).toNat:Int)=bt a.data.toList i):=zN2 a;have HB:Hid (∀i (h:i<b.size),((b[i]'h).toNat:Int)=bt b.data.toList i):=zN2 b;have HM:Hid ((a.data.toList.map N).length=a.size∧(b.data.toList.map N).length=b.size):=⟨by rw[List.length_map,zAk],by rw[List.length_map,zAk]⟩;go_enter Tryz.func23,Tryz.ntmps23;go_wp2
 go_loopw [5] (fun i wr=>∃k:Nat,k≤a.size∧k≤b.size∧i = .int .i64 k∧(∀j,j<k→(a.data.toList.map N).getD j 0=(b.data.toList.map N).getD j 0)∧∃n,wr=w.drewN n) (fun i _=>a.size-(intOf i).toNat)
 case atStart=>exact⟨0,Nat.zero_le _,Nat.zero_le _,rfl,fun j h=>by omega,0,rfl⟩
 case round=>
  obtain⟨k,hk1,hk2,rfl,hall,nw,rfl⟩:=hrel;have HK:Hid (∀j,j<k→(a.data.toList.map N).getD j 0=(b.data.toList.map N).getD j 0):=hall;clear hall;by_cases hlt1:k<a.size
  · by_cases hlt2:k<b.size
    · by_cases hxy:((a[k]'hlt1).toNat:Int)=((b[k]'hlt2).toNat:Int)
      · have hn:(((a[k]'hlt1).toNat:Int) != ((b[k]'hlt2).toNat:Int))=false:=by simpa using hxy
        have HB2:Hid (∀j,j<k+1→(a.data.toList.map N).getD j 0=(b.data.toList.map N).getD j 0):=fun j h=>by
         by_cases e:j=k
         · subst e;rw[zKb,zKb,←HA.out j hlt1,←HB.out j hlt2,hxy]
         · exact HK.out j (by omega)
        clear hxy;go_wp2;go_quiet (fail);go_wp2
        go_roundw
        (case rel=>exact⟨k+1,by omega,by omega,by go_num,HB2.out,_,rfl⟩);case measure=>simp[intOf];omega
      · have hn:(((a[k]'hlt1).toNat:Int) != ((b[k]'hlt2).toNat:Int))=true:=by simpa using hxy
        have HF:Hid (lexL (a.data.toList.map N) (b.data.toList.map N)=decide (((a[k]'hlt1).toNat:Int)<((b[k]'hlt2).toNat:Int))):=by
         show lexL _ _=_;rw[zWe k _ _ (by rw[HM.out.1];exact hlt1) (by rw[HM.out.2];exact hlt2) HK.out (by rw[zKb,zKb,←HA.out k hlt1,←HB.out k hlt2];exact hxy),zKb,zKb,←HA.out k hlt1,←HB.out k hlt2]
        clear hxy;go_wp2;go_quiet (fail);go_wp2;go_quiet (fail);go_wp2;go_ret;exact⟨by rw[HF.out];first|rfl|(simp;done),drewN3 _ _ _ _⟩
    · have HF:Hid (lexL (a.data.toList.map N) (b.data.toList.map N)=decide (a.size<b.size)):=by
       show lexL _ _=_;rw[zLf k _ _ (by rw[HM.out.1];exact hk1) (by rw[HM.out.2];exact hk2) HK.out (.inr (by rw[HM.out.2];omega)),HM.out.1,HM.out.2]
      go_wp2;go_ret;exact⟨by rw[HF.out];first|rfl|(simp;done),_,by first|rfl|rw[World.drewN_drewN]⟩
  · have HF:Hid (lexL (a.data.toList.map N) (b.data.toList.map N)=decide (a.size<b.size)):=by
     show lexL _ _=_;rw[zLf k _ _ (by rw[HM.out.1];exact hk1) (by rw[HM.out.2];exact hk2) HK.out (.inl (by rw[HM.out.1];omega)),HM.out.1,HM.out.2]
    go_wp2;go_ret;exact⟨by rw[HF.out];first|rfl|(simp;done),_,by first|rfl|rw[World.drewN_drewN]⟩
theorem zOa(a b:ByteArray)(w:World)(ha:a.size≤9223372036854775807)(hb:b.size≤9223372036854775807):
 Calls Tryz.prog 23 #[.string a,.string b] w fun e w'=>e = .returned (.bool (zAa a b))∧∃n,w'=w.drewN n:=by
 have h:=zY3 a b w ha hb;rw[←zLg]at h;exact h
theorem zFi(s:ByteArray)(w:World)(hm:s.size≤9223372036854775807):
 Calls Tryz.prog 22 #[.string s] w fun e w'=>e = .returned (.bool (zAq s.data.toList))∧Below w.heap.size w w':=by
 by_cases hs:96<s.size
 · have HF:Hid (zAq s.data.toList=false):=word_far (by rw[zAk];exact hs)
   go_enter Tryz.func22,Tryz.ntmps22;go_wp2;go_ret;exact⟨by rw[HF.out];rfl,Below.refl _ _⟩
 have HROOM:Hid (Room s.data.toList):=zE2 (by rw[zAk];omega);go_enter Tryz.func22,Tryz.ntmps22;go_wp2_with fail;refine(zHa s _ hm HROOM.out).mono ?_;rintro e w1 ⟨v1,hb1,⟨hr,rfl,rfl⟩|⟨xs,hr,rfl,hmade⟩⟩
 · have HF:Hid (zAq s.data.toList=false):=by show zAq _=_;unfold zAq;rw[hr]
   clear hr;go_wp2;refine wp_loop_rounds 1 ?_;rw[rounds_succ];go_wp2;go_ret;exact⟨by rw[HF.out];rfl,hb1⟩
 have HR:Hid (rs s.data.toList=some xs):=hr;have hlen:=(rs_len hr).2;rw[zAk]at hlen;clear hr;obtain⟨ao,cap,rfl,hc⟩:=hmade.row;have HC:Hid (0<xs.length→∃b off,ao=some ⟨b,off,none⟩∧∀i,i<xs.length→w1.cell? ⟨b,off+i,none⟩=some (.int .i32 (xs.getD i 0))):=hc;clear hc hmade;go_wp2
 go_loop [5] (fun i=>∃k:Nat,k≤xs.length∧i = .int .i64 k∧(xs.take k).all vis=true) (fun i=>xs.length-(intOf i).toNat)
 case atStart=>exact⟨0,Nat.zero_le _,rfl,rfl⟩
 case round=>
  obtain⟨k,hk,rfl,hall⟩:=hrel;have HA:Hid ((xs.take k).all vis=true):=hall;clear hall;by_cases hlt:k<xs.length
  · obtain⟨b,off,rfl,hc⟩:=HC.out (by omega)
    have hck:=hc k hlt;clear hc HC;generalize hx:xs.getD k 0=x at *;have HX:Hid (xs.getD k 0=x):=hx;clear hx;by_cases h32:x≤32
    · have HF:Hid (zAq s.data.toList=false):=zJg HR.out hlt (by rw[HX.out];simp[vis];omega)
      go_wp2;go_ret;exact⟨by rw[HF.out];rfl,hb1⟩
    by_cases h127:x=127
    · have HF:Hid (zAq s.data.toList=false):=zJg HR.out hlt (by rw[HX.out];simp[vis];omega)
      have h127':(x==127)=true:=beq_iff_eq.2 h127;clear h127;go_wp2;go_ret;exact⟨by rw[HF.out];rfl,hb1⟩
    · have h127':(x==127)=false:=beq_eq_false_iff_ne.2 h127
      (have HV:Hid (vis x=true):=by show vis x=true;simp[vis];omega);go_wp2
      go_round
      (case rel=>exact⟨k+1,by omega,by go_num,all_next hlt HA.out (by rw[HX.out];exact HV.out)⟩);case measure=>simp[intOf];omega
  · obtain rfl:k=xs.length:=by omega
    have HF:Hid (zAq s.data.toList=(decide (1≤xs.length)&&decide (xs.length≤24))):=word_of HR.out (by have:=HA.out;rwa [List.take_length]at this);by_cases h1:1≤xs.length
    · by_cases h24:xs.length≤24
      all_goals
       go_wp2;go_ret;refine⟨?_,hb1⟩;rw[HF.out];simp[h1,h24];omega
    · go_wp2
      go_ret;refine⟨?_,hb1⟩;rw[HF.out];simp[h1]
theorem zOu{xs ys:List Int}(hl:xs.length=ys.length)(h:∀j,j<xs.length→xs.getD j 0=ys.getD j 0):xs=ys:=by
 refine List.ext_getElem hl (fun i h1 h2=>?_);have:=h i h1;simpa[List.getD_eq_getElem?_getD,List.getElem?_eq_getElem h1,List.getElem?_eq_getElem h2]using this
theorem Same_any(va vb:Value)(xs ys:List Int)(w:World)(h1:Row w va xs)(h2:Row w vb ys)(hx:xs.length≤9223372036854775807)(hy:ys.length≤9223372036854775807):
 Calls Tryz.prog 119 #[va,vb] w fun e w'=>e = .returned (.bool (decide (xs=ys)))∧∃n,w'=w.drewN n:=by
 obtain⟨ao1,cap1,rfl,hc1⟩:=h1;obtain⟨ao2,cap2,rfl,hc2⟩:=h2;by_cases hl:xs.length=ys.length
 · have hlb:((xs.length:Int) != (ys.length:Int))=false:=by simp[hl]
   have HL:Hid (xs.length=ys.length):=hl;have HC1:Hid (0<xs.length→∃b off,ao1=some ⟨b,off,none⟩∧∀i,i<xs.length→w.cell? ⟨b,off+i,none⟩=some (.int .i32 (xs.getD i 0))):=hc1;have HC2:Hid (0<ys.length→∃b off,ao2=some ⟨b,off,none⟩∧∀i,i<ys.length→w.cell? ⟨b,off+i,none⟩=some (.int .i32 (ys.getD i 0))):=hc2;clear hc1 hc2 hl;go_enter Tryz.func119,Tryz.ntmps119;go_wp2
   go_loopw [5] (fun i wr=>∃k:Nat,k≤xs.length∧i = .int .i64 k∧(∀j,j<k→xs.getD j 0=ys.getD j 0)∧∃n,wr=w.drewN n) (fun i _=>xs.length-(intOf i).toNat)
   case atStart=>exact⟨0,Nat.zero_le _,rfl,fun j h=>by omega,0,rfl⟩
   case round=>
    obtain⟨k,hk,rfl,hall,nw,rfl⟩:=hrel;have HA:Hid (∀j,j<k→xs.getD j 0=ys.getD j 0):=hall;clear hall;by_cases hlt:k<xs.length
    · have hlt2:k<ys.length:=by have:=HL.out;omega
      obtain⟨g1,off1,rfl,hc1⟩:=HC1.out (by omega);obtain⟨g2,off2,rfl,hc2⟩:=HC2.out (by omega);have hck1:=hc1 k hlt;have hck2:=hc2 k hlt2;clear hc1 hc2;generalize hx':xs.getD k 0=x at *;generalize hy':ys.getD k 0=y at *;have HX:Hid (xs.getD k 0=x):=hx';have HY:Hid (ys.getD k 0=y):=hy';clear hx' hy';by_cases hxy:x=y
      · subst hxy
        have HB:Hid (∀j,j<k+1→xs.getD j 0=ys.getD j 0):=fun j h=>by
         by_cases e:j=k
         · subst e;rw[HX.out,HY.out]
         · exact HA.out j (by omega)
        go_wp2;go_quiet (fail);go_wp2
        go_roundw
        (case rel=>exact⟨k+1,by omega,by go_num,HB.out,_,rfl⟩);case measure=>simp[intOf];omega
      · have hb:(x != y)=true:=by simpa using hxy
        have HF:Hid (decide (xs=ys)=false):=decide_eq_false (fun e=>hxy (by rw[←HX.out,←HY.out,e]));clear hxy;go_wp2;go_quiet (fail);go_wp2;go_ret;exact⟨by rw[HF.out];rfl,_,by first|rfl|rw[World.drewN_drewN]⟩
    · have HF:Hid (decide (xs=ys)=true):=decide_eq_true (zOu HL.out (fun j hj=>HA.out j (by omega)))
      go_wp2;go_ret;exact⟨by rw[HF.out];rfl,_,by first|rfl|rw[World.drewN_drewN]⟩
 · have hlb:((xs.length:Int) != (ys.length:Int))=true:=by simpa using fun e=>hl (by omega)
   have HF:Hid (decide (xs=ys)=false):=decide_eq_false (fun e=>hl (by rw[e]));clear hc1 hc2 hl;go_enter Tryz.func119,Tryz.ntmps119;go_wp2;go_ret;exact⟨by rw[HF.out];rfl,0,rfl⟩
end
