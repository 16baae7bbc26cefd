import Derived.Test.YtobjpljdgieklaaGreatDoorNums
import Derived.Test.YtobjpljdgieklaaGreatDoorJ4
import Derived.WalkSmall
import Derived.Test.YtobjpljdgieklaaGreatDoorTexts
import Derived.Laws.BytesArg
set_option maxRecDepth 100000
namespace Go.Proofs.YtobjpljdgieklaaGreatDoor
namespace Fm
structure Arc where
 label:Int
 out:Int
 to:Nat
deriving DecidableEq
structure St where
 final:Bool
 out:Int
 arcs:List Arc
deriving DecidableEq
abbrev En:=List Int×Int
def zAz(m:Int):List En→Int
 |[]=>m
 |e::r=>zAz (if e.2<m then e.2 else m) r
def least:List En→Int
 |[]=>0
 |e::r=>zAz e.2 (e::r)
def hd(e:En):Int:=e.1.headD 0
def tl(e:En):En:=(e.1.tail,e.2)
def lead(c:Int):List En→Nat
 |[]=>0
 |e::r=>if hd e=c then lead c r+1 else 0
def grp:List En→List (Int×List En)
 |[]=>[]
 |e::r=>match grp r with
  |[]=>[(hd e,[tl e])]
  |(c,G)::gs=>if hd e=c then (c,tl e::G)::gs else (hd e,[tl e])::(c,G)::gs
def zDg:List En→Bool
 |([],_)::_=>true
 |_=>false
def zAk:List En→List En
 |([],_)::r=>r
 |S=>S
def zC0(S:List En):Int:=match S with
 |([],n)::_=>n-least S
 |_=>0
def zDd(b:List St)(s:St):List St×Nat:=if s∈b then (b,b.idxOf s)else (b++[s],b.length)
def arF(st:List St→List En→List St×Nat)(base:Int):List St→List (Int×List En)→List St×List Arc
 |b,[]=>(b,[])
 |b,(c,G)::r=>((arF st base (st b G).1 r).1,⟨c,least G-base,(st b G).2⟩::(arF st base (st b G).1 r).2)
def stF:Nat→List St→List En→List St×Nat
 |0,b,_=>(b,0)
 |f+1,b,S=>zDd (arF (stF f) (least S) b (grp (zAk S))).1 ⟨zDg S,zC0 S,(arF (stF f) (least S) b (grp (zAk S))).2⟩
def cut(k:Nat)(l:List En):List En:=l.map fun e=>(e.1.drop k,e.2)
def bulk(l:List En):Nat:=(l.map fun e=>e.1.length+1).sum
theorem zLo(l:List En):cut 0 l=l:=by simp[cut]
theorem zCv(k:Nat)(e:En)(l:List En):cut k (e::l)=(e.1.drop k,e.2)::cut k l:=rfl
theorem zO5(k:Nat)(l:List En):(cut k l).length=l.length:=by simp[cut]
theorem zLp(k n:Nat)(l:List En):cut k (l.take n)=(cut k l).take n:=by simp[cut,List.map_take]
theorem zHf(k n:Nat)(l:List En):cut k (l.drop n)=(cut k l).drop n:=by simp[cut,List.map_drop]
theorem cut_tl(k:Nat)(l:List En):cut (k+1) l=(cut k l).map tl:=by
 simp only[cut,List.map_map];refine List.map_congr_left fun e _=>?_
 simp[tl,List.tail_drop]
theorem zJv(k:Nat):∀(l:List En) (m:Int),zAz m (cut k l)=zAz m l
 |[],_=>rfl
 |e::r,m=>by rw[zCv,zAz,zAz,zJv k r]
theorem zFn(k:Nat)(l:List En):least (cut k l)=least l:=by
 cases l with
 |nil=>rfl
 |cons e r=>rw[zCv,least,least,←zCv,zJv]
theorem zVj(c:Int):∀l:List En,lead c l≤l.length
 |[]=>Nat.le_refl _
 |e::r=>by
  rw[lead]
  split
  · simp[zVj c r]
  · simp
theorem zCu(e:En)(r:List En):grp (e::r)=(hd e,((e::r).take (lead (hd e) r+1)).map tl)::grp ((e::r).drop (lead (hd e) r+1)):=by
 induction r generalizing e with
 |nil=>rfl
 |cons e' r ih=>
  rw[grp,ih e'];simp only;by_cases h:hd e=hd e'
  · rw[if_pos h,lead,if_pos h.symm]
    simp[h]
  · rw[if_neg h,lead,if_neg (fun e=>h e.symm)]
    show _=(hd e,[tl e])::grp (e'::r);rw[ih e']
theorem zMy:∀(l:List En) (m:Int),zAz m l≤m
 |[],_=>Int.le_refl _
 |e::r,m=>by
  rw[zAz];have:=zMy r (if e.2<m then e.2 else m);by_cases h:e.2<m
  · rw[if_pos h]at this ⊢;omega
  · rw[if_neg h]at this ⊢;omega
theorem zJu:∀(l:List En) (m:Int),zAz m l=m∨∃e∈l,e.2=zAz m l
 |[],_ => .inl rfl
 |e::r,m=>by
  rw[zAz];rcases zJu r (if e.2<m then e.2 else m)with h|⟨x,hx,h⟩
  · split at h
    · rename_i hlt
      rw[if_pos hlt];exact .inr ⟨e,by simp,h.symm⟩
    · rename_i hlt
      rw[if_neg hlt];exact .inl h
  · exact .inr ⟨x,by simp[hx],h⟩
theorem zJw:∀(l:List En) (m:Int),∀e∈l,zAz m l≤e.2
 |x::r,m,e,h=>by
  rw[zAz];rcases List.mem_cons.1 h with rfl|h
  · have:=zMy r (if e.2<m then e.2 else m)
    by_cases h:e.2<m
    · rw[if_pos h]at this ⊢;omega
    · rw[if_neg h]at this ⊢;omega
  · exact zJw r _ e h
theorem zCo{l:List En}{e:En}(h:e∈l):least l≤e.2:=by
 cases l with
 |nil=>cases h
 |cons x r=>exact zJw _ _ e h
theorem zCb{l:List En}(h:l≠[]):∃e∈l,e.2=least l:=by
 cases l with
 |nil=>exact absurd rfl h
 |cons x r=>
  rcases zJu (x::r) x.2 with h|h
  · exact⟨x,by simp,h.symm⟩
  · exact h
end Fm
section
open Go.RowKit Nums
theorem zQ2:(Tryz.prog.info? 21).map (fun i=>(i.zero,i.size,i.bytes))=some (some (.int .i32 0),1,4):=by kernel_rfl
def Made(B:Nat)(w:World)(v:Value)(xs:List Int):Prop:=w.ownsRow B 21 1 v xs.length (xs.map (Value.int .i32))
theorem Made.below{B:Nat}{w w':World}{v:Value}{xs:List Int}(h:Made B w v xs)(hb:Below w.heap.size w w'):Made B w' v xs:=by
 obtain⟨hl,hn|⟨g,cap,cur,rfl,h1,hg,h2⟩⟩:=h
 · exact⟨hl,.inl hn⟩
 · exact⟨hl,.inr ⟨g,cap,cur,rfl,h1,(hb.block g (Array.getElem?_eq_some_iff.1 hg).1).trans hg,h2⟩⟩
theorem zRg(w:World)(r:Int):(w.alloc (Obj.cells #[Value.int .i32 r] 21)).cell? ⟨w.heap.size,0,none⟩=some (.int .i32 r):=by simp
set_option maxHeartbeats 2000000 in
theorem zF4(s:ByteArray)(w:World)(ht:Tabs w)(hm:s.size≤9223372036854775807)(hroom:Room s.data.toList):
 Calls Tryz.prog 71 #[.string s] w fun e w'=>∃v,Below w.heap.size w w' ∧
  ((rs s.data.toList=none∧v = .slice none 0 0∧e = .returned (.tuple #[v,.bool false])) ∨
   ∃xs,rs s.data.toList=some xs∧e = .returned (.tuple #[v,.bool true])∧Made w.heap.size w' v xs):=by
 obtain⟨i0,hi,hz0,hz1,hz2⟩:=info_parts zQ2;go_enter Tryz.func71,Tryz.ntmps71;go_wp2
 go_loopw [0,4] (fun t v wr=>∃(m:ByteArray) (pre:List Int),t = .string m∧m.size+pre.length≤s.size∧Made w.heap.size wr v pre∧zA1 s.data.toList m.data.toList pre∧Below w.heap.size w wr)
  (fun t _ _=>zSh t)
 case atStart=>exact⟨s,[],rfl,by simp,World.ownsRow_nil _ _ _ _,zGl _,Below.refl _ _⟩
 case round=>
  obtain⟨m,pre,rfl,hms,hown,hL,hbel⟩:=hrel;have HL:Hid (zA1 s.data.toList m.data.toList pre):=hL;clear hL;have htr:Tabs wr:=ht.below hbel;by_cases h0:0<m.size
  · have hne:=zEp h0
    have hbd:=zR8 hne;rw[zAd]at hbd;have HNE:Hid (m.data.toList≠[]):=hne;clear hne;generalize hr:rd m.data.toList=q at hbd;obtain⟨r,n⟩:=q;have HR:Hid (rd m.data.toList=(r,n)):=hr;clear hr;simp only at hbd;by_cases hn:n=0
    · subst hn
      have HF:Hid (rs s.data.toList=none):=zH4 HL.out HNE.out (by rw[HR.out]);go_wp2_with (go_at_call 93;refine(zBq _ _ htr h0 (by omega)).mono ?_;rintro e w' ⟨rfl,n2,rfl⟩;rw[HR.out]);go_ret2;exact⟨_,below_drewN hbel _,.inl ⟨HF.out,rfl,rfl⟩⟩
    have hn0:((n:Int)==0)=false:=beq_eq_false_iff_ne.2 (by omega);have hrm:pre.length+1≤35184372088832:=hroom m.data.toList pre HL.out (by rw[zAd,zAd];exact hms) HNE.out (by rw[HR.out];exact hn)
    go_wp2_with (first
     |(go_at_call 93;refine(zBq _ _ htr h0 (by omega)).mono ?_;rintro e w' ⟨rfl,n2,rfl⟩;rw[HR.out])
     |(at_builtin;refine wpList_append_own _ rfl _ _ 122 rfl w.heap.size 21 i0 (.int .i32 0) 1 4 Tryz.underlying122 hi hz0 hz1 hz2 rfl (by decide) _ _ _ rfl (World.ownsRow.alloc (w:=wr.drewN _) hown _) ⟨wr.heap.size,0,none⟩ 1 1 [.int .i32 r] rfl rfl ?c1 ?c2 ?c3 ?c4 ?c5 ?_))
    case c1=>
     intro j u hj
     match j,hj with
     |0,hj=>simp at hj;subst hj;exact zRg (wr.drewN n2) r
    (case c2=>intro u hu;simp at hu;subst hu;rfl);(case c3=>unfold maxLen;omega);(case c4=>omega);(case c5=>have:=hbel.size;simp;omega);intro v' w1 hown' hgrow _;(have hown2:Made w.heap.size w1 v' (pre++[r]):=by unfold Made;simpa using hown');have hb1:Below w.heap.size w w1:=((below_drewN hbel n2).alloc (by simpa using hbel.size) _).grown hgrow (by have:=hbel.size;simp;omega) (fun k hk=>(World.ownsRow.lt hown k hk).1);clear hown' hgrow hown;go_wp2
    go_roundw
    (case rel=>exact⟨m.extract n m.size,pre++[r],rfl,by rw[zBr];simp;omega,hown2,zOi HL.out HNE.out HR.out hn,hb1⟩);case measure=>simp only[zSh];rw[zBr];omega
  · have HN:Hid (m.data.toList=[]):=zE2 h0
    have HF:Hid (rs s.data.toList=some pre):=zLf (by have:=HL.out;rw[HN.out]at this;exact this);go_wp2;go_ret2;exact⟨_,hbel,.inr ⟨pre,HF.out,rfl,hown⟩⟩
end
namespace Fm
def Ok:Nat→List En→Prop
 |0,_=>False
 |f+1,S=>S≠[]∧(∀e∈zAk S,e.1≠[])∧∀p∈grp (zAk S),Ok f p.2
theorem zEj(e:En)(l:List En):bulk (e::l)=e.1.length+1+bulk l:=by simp[bulk]
theorem zIk(a b:List En):bulk (a++b)=bulk a+bulk b:=by simp[bulk]
theorem zPe:∀l:List En,(∀e∈l,e.1≠[])→bulk (l.map tl)+l.length=bulk l
 |[],_=>rfl
 |e::r,h=>by
  have ih:=zPe r fun x hx=>h x (by simp[hx])
  have he:0<e.1.length:=List.length_pos_iff.2 (h e (by simp));rw[List.map_cons,zEj,zEj,List.length_cons];have:(tl e).1.length=e.1.length-1:=by simp[tl]
  omega
def zPd(gs:List (Int×List En)):Nat:=(gs.map fun p=>bulk p.2).sum
theorem zJ8(p:Int×List En)(gs:List (Int×List En)):zPd (p::gs)=bulk p.2+zPd gs:=by simp[zPd]
theorem zNj:∀(n:Nat) (l:List En),l.length≤n→(∀e∈l,e.1≠[])→zPd (grp l)+l.length=bulk l
 |_,[],_,_=>rfl
 |0,e::r,h,_=>by simp at h
 |n+1,e::r,h,hne=>by
  rw[zCu,zJ8];simp only;have ih:=zNj n ((e::r).drop (lead (hd e) r+1)) (by rw[List.length_drop];simp at h ⊢;omega) (fun x hx=>hne x (List.mem_of_mem_drop hx));have h1:=zPe ((e::r).take (lead (hd e) r+1)) (fun x hx=>hne x (List.mem_of_mem_take hx));have h2:=zIk ((e::r).take (lead (hd e) r+1)) ((e::r).drop (lead (hd e) r+1));rw[List.take_append_drop]at h2;have h3:((e::r).take (lead (hd e) r+1)).length+((e::r).drop (lead (hd e) r+1)).length=(e::r).length:=by rw[←List.length_append,List.take_append_drop]
  omega
theorem rest_bulk{S:List En}(h:S≠[])(hne:∀e∈zAk S,e.1≠[]):zPd (grp (zAk S))+1≤bulk S:=by
 have h1:=zNj _ (zAk S) (Nat.le_refl _) hne;cases S with
 |nil=>exact absurd rfl h
 |cons e r=>
  obtain⟨x,n⟩:=e;cases x with
  |nil=>
   have h2:zAk (([],n)::r)=r:=rfl;rw[h2]at h1 ⊢;rw[zEj];simp;omega
  |cons c t=>
   have h2:zAk ((c::t,n)::r)=(c::t,n)::r:=rfl;rw[h2]at h1 ⊢;simp only[List.length_cons]at h1;omega
theorem zUu(b:List St)(s:St):b<+:(zDd b s).1:=by
 unfold zDd
 split
 · exact List.prefix_refl _
 · exact List.prefix_append _ _
theorem zUv(b:List St)(s:St):(zDd b s).1.length≤b.length+1∧(zDd b s).2<(zDd b s).1.length∧(zDd b s).1[(zDd b s).2]?=some s:=by
 unfold zDd
 split
 · rename_i h
   have:=List.idxOf_lt_length_of_mem h;exact⟨by simp,by simpa using this,by rw[List.getElem?_eq_getElem this,List.getElem_idxOf]⟩
 · exact⟨by simp,by simp,by simp⟩
theorem zNn{f:Nat}{base:Int}(ih:∀b S,Ok f S→b<+:(stF f b S).1∧(stF f b S).1.length≤b.length+bulk S∧(stF f b S).2<(stF f b S).1.length):
 ∀(gs:List (Int×List En)) (b:List St),(∀p∈gs,Ok f p.2)→b<+:(arF (stF f) base b gs).1∧(arF (stF f) base b gs).1.length≤b.length+zPd gs
 |[],b,_=>⟨List.prefix_refl _,by simp[arF,zPd]⟩
 |(c,G)::r,b,h=>by
  obtain⟨h1,h2,_⟩:=ih b G (h (c,G) (by simp));obtain⟨h4,h5⟩:=zNn ih r (stF f b G).1 (fun p hp=>h p (by simp[hp]));rw[arF,zJ8];exact⟨h1.trans h4,by simp only;omega⟩
theorem zHq:∀(f:Nat) (b:List St) (S:List En),Ok f S→b<+:(stF f b S).1∧(stF f b S).1.length≤b.length+bulk S∧(stF f b S).2<(stF f b S).1.length
 |0,_,_,h=>h.elim
 |f+1,b,S,⟨h0,h1,h2⟩=>by
  obtain⟨p1,p2⟩:=zNn (base:=least S) (zHq f) (grp (zAk S)) b h2;have p3:=rest_bulk h0 h1;have p4:=zUv (arF (stF f) (least S) b (grp (zAk S))).1 ⟨zDg S,zC0 S,(arF (stF f) (least S) b (grp (zAk S))).2⟩;rw[stF];exact⟨p1.trans (zUu _ _),by omega,p4.2.1⟩
theorem grp_step{k:Nat}{T:List En}{e:En}(h:T[0]?=some e):
 grp (cut k T)=(hd (e.1.drop k,e.2),cut (k+1) (T.take (1+lead (hd (e.1.drop k,e.2)) (cut k (T.drop 1)))))::grp (cut k (T.drop (1+lead (hd (e.1.drop k,e.2)) (cut k (T.drop 1))))):=by
 cases T with
 |nil=>simp at h
 |cons x r=>
  simp only[List.getElem?_cons_zero,Option.some.injEq]at h;subst h;rw[zCv,zCu,cut_tl,zLp,zHf,zCv];simp only[List.drop_succ_cons,List.drop_zero,Nat.add_comm 1];rw[zHf]
theorem zXd{k n:Nat}{T:List En}(h:∀e∈cut k T,e.1≠[])(hn:n≤T.length):bulk (cut (k+1) (T.take n))+n+bulk (cut k (T.drop n))=bulk (cut k T):=by
 have h1:=zPe (cut k (T.take n)) (fun x hx=>h x (by rw[zLp]at hx;exact List.mem_of_mem_take hx));rw[←cut_tl,zO5,List.length_take,Nat.min_eq_left hn]at h1;rw[h1,←zIk,zLp,zHf,List.take_append_drop]
theorem fin_cut{k:Nat}{l:List En}{e:En}(h:l[0]?=some e)(hk:k≤e.1.length):(e.1.length=k→zDg (cut k l)=true∧zAk (cut k l)=cut k (l.drop 1)∧zC0 (cut k l)=e.2-least l)∧(e.1.length≠k→zDg (cut k l)=false∧zAk (cut k l)=cut k l∧zC0 (cut k l)=0):=by
 cases l with
 |nil=>simp at h
 |cons x r=>
  simp only[List.getElem?_cons_zero,Option.some.injEq]at h;subst h;have hl:=zFn k (x::r);rw[zCv]at hl ⊢;constructor
  · intro he
    rw[List.drop_of_length_le (by omega)]at hl ⊢;exact⟨rfl,rfl,by simp only[zC0];rw[hl]⟩
  · intro he
    cases hd:x.1.drop k with
    |nil=>rw[List.drop_eq_nil_iff]at hd;omega
    |cons c t=>exact⟨rfl,rfl,rfl⟩
theorem zQw{l:List En}{lo hi:Int}(h:l≠[])(hw:∀e∈l,lo≤e.2∧e.2≤hi):lo≤least l∧least l≤hi:=by
 obtain⟨e,he,h1⟩:=zCb h;rw[←h1];exact hw e he
end Fm
namespace Nums
def u8(n:Int):UInt8:=UInt8.ofNat n.toNat
def wr(r:Int):List UInt8:=(wrI r).map u8
theorem zD3{x:Int}(h0:0≤x)(h:x<256):((u8 x).toNat:Int)=x:=by
 unfold u8;rw[UInt8.toNat_ofNat_of_lt' (by show x.toNat<256;omega)];omega
theorem zKk(b:UInt8){x:Int}(h:x=(b.toNat:Int)):u8 x=b:=by
 subst h;unfold u8;simp
theorem zLt(b:UInt8)(l:List UInt8):bt (b::l) 0=(b.toNat:Int):=rfl
theorem zGr(b:UInt8)(l:List UInt8)(i:Nat):bt (b::l) (i+1)=bt l i:=rfl
theorem zL2(r:Int):(wr r).length=(wrI r).length:=by simp[wr]
theorem rd_wr{r:Int}(h:isR r=true)(t:List UInt8):rd (wr r++t)=(r,(wrI r).length):=by
 have hb:=of_decide_eq_true h;by_cases a:r<128
 · have e:wr r=[u8 r]:=by unfold wr;rw[wrI1 a];rfl
   have v:=zD3 (x:=r) (by omega) (by omega);rw[e,wrI1 a,rd_one (by show((u8 r).toNat:Int)<128;omega)];show(((u8 r).toNat:Int),1)=_;rw[v];rfl
 by_cases b:r<2048
 · have e:wr r=[u8 (192+r/64),u8 (128+r%64)]:=by unfold wr;rw[wrI2 (by omega) b];rfl
   have v0:=zD3 (x:=192+r/64) (by omega) (by omega);have v1:=zD3 (x:=128+r%64) (by omega) (by omega);rw[e,wrI2 (by omega) b];generalize hl:[u8 (192+r/64),u8 (128+r%64)]++t=l;(have b0:bt l 0=192+r/64:=by rw[←hl];exact v0);(have b1:bt l 1=128+r%64:=by rw[←hl];exact v1);(have hn:2≤l.length:=by rw[←hl];simp);have ha:acc (ldOf 2) l 2=r:=by show acc 192 l 2=r;rw[acc2,b0,b1];omega
   rw[zQd (n:=2) (by omega) (by omega) (by rw[b0];unfold ldSz;rw[if_neg (by omega),if_neg (by omega),if_pos (by omega)];rfl) hn
    (fun j x y => by obtain rfl : j = 1 := by omega
                     rw[b1];omega) (by rw[ha];show(128:Int)≤r;omega) (by rw[ha];exact h),ha]
   rfl
 by_cases c:r<65536
 · have e:wr r=[u8 (224+r/64/64),u8 (128+r/64%64),u8 (128+r%64)]:=by unfold wr;rw[wrI3 (by omega) c];rfl
   have v0:=zD3 (x:=224+r/64/64) (by omega) (by omega);have v1:=zD3 (x:=128+r/64%64) (by omega) (by omega);have v2:=zD3 (x:=128+r%64) (by omega) (by omega);rw[e,wrI3 (by omega) c];generalize hl:[u8 (224+r/64/64),u8 (128+r/64%64),u8 (128+r%64)]++t=l;(have b0:bt l 0=224+r/64/64:=by rw[←hl];exact v0);(have b1:bt l 1=128+r/64%64:=by rw[←hl];exact v1);(have b2:bt l 2=128+r%64:=by rw[←hl];exact v2);(have hn:3≤l.length:=by rw[←hl];simp);have ha:acc (ldOf 3) l 3=r:=by show acc 224 l 3=r;rw[acc3,b0,b1,b2];omega
   rw[zQd (n:=3) (by omega) (by omega) (by rw[b0];unfold ldSz;rw[if_neg (by omega),if_neg (by omega),if_neg (by omega),if_pos (by omega)];rfl) hn
    (fun j x y => by obtain rfl | rfl : j = 1 ∨ j = 2 := by omega
                     · rw[b1];omega
                     · rw[b2];omega) (by rw[ha];show(2048:Int)≤r;omega) (by rw[ha];exact h),ha]
   rfl
 · have e:wr r=[u8 (240+r/64/64/64),u8 (128+r/64/64%64),u8 (128+r/64%64),u8 (128+r%64)]:=by unfold wr;rw[wrI4 (by omega)];rfl
   have v0:=zD3 (x:=240+r/64/64/64) (by omega) (by omega);have v1:=zD3 (x:=128+r/64/64%64) (by omega) (by omega);have v2:=zD3 (x:=128+r/64%64) (by omega) (by omega);have v3:=zD3 (x:=128+r%64) (by omega) (by omega);rw[e,wrI4 (by omega)];generalize hl:[u8 (240+r/64/64/64),u8 (128+r/64/64%64),u8 (128+r/64%64),u8 (128+r%64)]++t=l;(have b0:bt l 0=240+r/64/64/64:=by rw[←hl];exact v0);(have b1:bt l 1=128+r/64/64%64:=by rw[←hl];exact v1);(have b2:bt l 2=128+r/64%64:=by rw[←hl];exact v2);(have b3:bt l 3=128+r%64:=by rw[←hl];exact v3);(have hn:4≤l.length:=by rw[←hl];simp);have ha:acc (ldOf 4) l 4=r:=by show acc 240 l 4=r;rw[acc4,b0,b1,b2,b3];omega
   rw[zQd (n:=4) (by omega) (by omega) (by rw[b0];unfold ldSz;rw[if_neg (by omega),if_neg (by omega),if_neg (by omega),if_neg (by omega),if_pos (by omega)];rfl) hn
    (fun j x y => by obtain rfl | rfl | rfl : j = 1 ∨ j = 2 ∨ j = 3 := by omega
                     · rw[b1];omega
                     · rw[b2];omega
                     · rw[b3];omega) (by rw[ha];show(65536:Int)≤r;omega) (by rw[ha];exact h),ha]
   rfl
theorem take1{l:List UInt8}(h:l≠[]):[u8 (bt l 0)]++l.drop 1=l:=by
 cases l with
 |nil=>exact absurd rfl h
 |cons b t=>simp[zKk b (zLt b t)]
theorem take2{l:List UInt8}(h:2≤l.length):[u8 (bt l 0),u8 (bt l 1)]++l.drop 2=l:=by
 cases l with
 |nil=>simp at h
 |cons b t=>
  have:=take1 (l:=t) (by intro e;subst e;simp at h);simp[zKk b (zLt b t),zGr b t 0]at *;exact this
theorem take3{l:List UInt8}(h:3≤l.length):[u8 (bt l 0),u8 (bt l 1),u8 (bt l 2)]++l.drop 3=l:=by
 cases l with
 |nil=>simp at h
 |cons b t=>
  have:=take2 (l:=t) (by simpa using h);simp[zKk b (zLt b t),zGr b t 0,zGr b t 1]at *;exact this
theorem take4{l:List UInt8}(h:4≤l.length):[u8 (bt l 0),u8 (bt l 1),u8 (bt l 2),u8 (bt l 3)]++l.drop 4=l:=by
 cases l with
 |nil=>simp at h
 |cons b t=>
  have:=take3 (l:=t) (by simpa using h);simp[zKk b (zLt b t),zGr b t 0,zGr b t 1,zGr b t 2]at *;exact this
theorem zUd{l:List UInt8}(hl:l≠[]){r:Int}{n:Nat}(h:rd l=(r,n))(hn:n≠0):isR r=true∧n=(wrI r).length∧l=wr r++l.drop n:=by
 have hr:isR r=true:=by have:=rd_isR (l:=l) (by rw[h];exact hn);rw[h]at this;exact this
 have hbd:=of_decide_eq_true hr;have c0:=zXf l 0;refine⟨hr,?_⟩;revert h;unfold rd;by_cases a:bt l 0<128
 · rw[if_pos a]
   intro e;obtain⟨rfl,rfl⟩:=Prod.mk.inj e;refine⟨by rw[wrI1 a];rfl,?_⟩;unfold wr;rw[wrI1 a];exact(take1 hl).symm
 rw[if_neg a]
 split
 · rename_i c
   intro e;obtain⟨rfl,rfl⟩:=Prod.mk.inj e;rw[acc2]at *;have e1:=wrI2 (r:=(bt l 0-192)*64+(bt l 1-128)) (by omega) (by omega);refine⟨by rw[e1];rfl,?_⟩;unfold wr;rw[e1];(have f0:192+((bt l 0-192)*64+(bt l 1-128))/64=bt l 0:=by omega);(have f1:128+((bt l 0-192)*64+(bt l 1-128))%64=bt l 1:=by omega);rw[f0,f1];exact(take2 c.2.2.1).symm
 split
 · rename_i c
   intro e;obtain⟨rfl,rfl⟩:=Prod.mk.inj e;rw[acc3]at *;have e1:=wrI3 (r:=((bt l 0-224)*64+(bt l 1-128))*64+(bt l 2-128)) (by omega) (by omega);refine⟨by rw[e1];rfl,?_⟩;unfold wr;rw[e1];(have f0:224+(((bt l 0-224)*64+(bt l 1-128))*64+(bt l 2-128))/64/64=bt l 0:=by omega);(have f1:128+(((bt l 0-224)*64+(bt l 1-128))*64+(bt l 2-128))/64%64=bt l 1:=by omega);(have f2:128+(((bt l 0-224)*64+(bt l 1-128))*64+(bt l 2-128))%64=bt l 2:=by omega);rw[f0,f1,f2];exact(take3 c.2.2.1).symm
 split
 · rename_i c
   intro e;obtain⟨rfl,rfl⟩:=Prod.mk.inj e;rw[acc4]at *;have e1:=wrI4 (r:=(((bt l 0-240)*64+(bt l 1-128))*64+(bt l 2-128))*64+(bt l 3-128)) (by omega);refine⟨by rw[e1];rfl,?_⟩;unfold wr;rw[e1];(have f0:240+((((bt l 0-240)*64+(bt l 1-128))*64+(bt l 2-128))*64+(bt l 3-128))/64/64/64=bt l 0:=by omega);(have f1:128+((((bt l 0-240)*64+(bt l 1-128))*64+(bt l 2-128))*64+(bt l 3-128))/64/64%64=bt l 1:=by omega);(have f2:128+((((bt l 0-240)*64+(bt l 1-128))*64+(bt l 2-128))*64+(bt l 3-128))/64%64=bt l 2:=by omega);(have f3:128+((((bt l 0-240)*64+(bt l 1-128))*64+(bt l 2-128))*64+(bt l 3-128))%64=bt l 3:=by omega);rw[f0,f1,f2,f3];exact(take4 c.2.2.1).symm
 intro e;exact absurd (Prod.mk.inj e).2.symm hn
end Nums
