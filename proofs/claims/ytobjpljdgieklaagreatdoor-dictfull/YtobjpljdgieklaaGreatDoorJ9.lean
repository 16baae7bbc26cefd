import Derived.Test.YtobjpljdgieklaaGreatDoorJ2
import Derived.Laws.BytesArg
import Derived.Test.YtobjpljdgieklaaGreatDoorJ6
set_option maxRecDepth 100000
namespace Go.Proofs.YtobjpljdgieklaaGreatDoor
namespace Fm
def Ok:Nat→List En→Prop
 |0,_=>False
 |f+1,S=>S≠[]∧(∀e∈zAk S,e.1≠[])∧∀p∈grp (zAk S),Ok f p.2
theorem zEj(e:En)(l:List En):bulk (e::l)=e.1.length+1+bulk l:=by simp[bulk]
theorem zIo(a b:List En):bulk (a++b)=bulk a+bulk b:=by simp[bulk]
theorem zPj:∀l:List En,(∀e∈l,e.1≠[])→bulk (l.map tl)+l.length=bulk l
 |[],_=>rfl
 |e::r,h=>by
  have ih:=zPj r fun x hx=>h x (by simp[hx])
  have he:0<e.1.length:=List.length_pos_iff.2 (h e (by simp));rw[List.map_cons,zEj,zEj,List.length_cons];have:(tl e).1.length=e.1.length-1:=by simp[tl]
  omega
def zPi(gs:List (Int×List En)):Nat:=(gs.map fun p=>bulk p.2).sum
theorem zJ7(p:Int×List En)(gs:List (Int×List En)):zPi (p::gs)=bulk p.2+zPi gs:=by simp[zPi]
theorem zNl:∀(n:Nat) (l:List En),l.length≤n→(∀e∈l,e.1≠[])→zPi (grp l)+l.length=bulk l
 |_,[],_,_=>rfl
 |0,e::r,h,_=>by simp at h
 |n+1,e::r,h,hne=>by
  rw[zCw,zJ7];simp only;have ih:=zNl n ((e::r).drop (lead (hd e) r+1)) (by rw[List.length_drop];simp at h ⊢;omega) (fun x hx=>hne x (List.mem_of_mem_drop hx));have h1:=zPj ((e::r).take (lead (hd e) r+1)) (fun x hx=>hne x (List.mem_of_mem_take hx));have h2:=zIo ((e::r).take (lead (hd e) r+1)) ((e::r).drop (lead (hd e) r+1));rw[List.take_append_drop]at h2;have h3:((e::r).take (lead (hd e) r+1)).length+((e::r).drop (lead (hd e) r+1)).length=(e::r).length:=by rw[←List.length_append,List.take_append_drop]
  omega
theorem rest_bulk{S:List En}(h:S≠[])(hne:∀e∈zAk S,e.1≠[]):zPi (grp (zAk S))+1≤bulk S:=by
 have h1:=zNl _ (zAk S) (Nat.le_refl _) hne;cases S with
 |nil=>exact absurd rfl h
 |cons e r=>
  obtain⟨x,n⟩:=e;cases x with
  |nil=>
   have h2:zAk (([],n)::r)=r:=rfl;rw[h2]at h1 ⊢;rw[zEj];simp;omega
  |cons c t=>
   have h2:zAk ((c::t,n)::r)=(c::t,n)::r:=rfl;rw[h2]at h1 ⊢;simp only[List.length_cons]at h1;omega
theorem zVa(b:List St)(s:St):b<+:(zDc b s).1:=by
 unfold zDc
 split
 · exact List.prefix_refl _
 · exact List.prefix_append _ _
theorem zVb(b:List St)(s:St):(zDc b s).1.length≤b.length+1∧(zDc b s).2<(zDc b s).1.length∧(zDc b s).1[(zDc b s).2]?=some s:=by
 unfold zDc
 split
 · rename_i h
   have:=List.idxOf_lt_length_of_mem h;exact⟨by simp,by simpa using this,by rw[List.getElem?_eq_getElem this,List.getElem_idxOf]⟩
 · exact⟨by simp,by simp,by simp⟩
theorem zNp{f:Nat}{base:Int}(ih:∀b S,Ok f S→b<+:(stF f b S).1∧(stF f b S).1.length≤b.length+bulk S∧(stF f b S).2<(stF f b S).1.length):
 ∀(gs:List (Int×List En)) (b:List St),(∀p∈gs,Ok f p.2)→b<+:(arF (stF f) base b gs).1∧(arF (stF f) base b gs).1.length≤b.length+zPi gs
 |[],b,_=>⟨List.prefix_refl _,by simp[arF,zPi]⟩
 |(c,G)::r,b,h=>by
  obtain⟨h1,h2,_⟩:=ih b G (h (c,G) (by simp));obtain⟨h4,h5⟩:=zNp ih r (stF f b G).1 (fun p hp=>h p (by simp[hp]));rw[arF,zJ7];exact⟨h1.trans h4,by simp only;omega⟩
theorem zHw:∀(f:Nat) (b:List St) (S:List En),Ok f S→b<+:(stF f b S).1∧(stF f b S).1.length≤b.length+bulk S∧(stF f b S).2<(stF f b S).1.length
 |0,_,_,h=>h.elim
 |f+1,b,S,⟨h0,h1,h2⟩=>by
  obtain⟨p1,p2⟩:=zNp (base:=least S) (zHw f) (grp (zAk S)) b h2;have p3:=rest_bulk h0 h1;have p4:=zVb (arF (stF f) (least S) b (grp (zAk S))).1 ⟨zDg S,zC1 S,(arF (stF f) (least S) b (grp (zAk S))).2⟩;rw[stF];exact⟨p1.trans (zVa _ _),by omega,p4.2.1⟩
theorem grp_step{k:Nat}{T:List En}{e:En}(h:T[0]?=some e):
 grp (cut k T)=(hd (e.1.drop k,e.2),cut (k+1) (T.take (1+lead (hd (e.1.drop k,e.2)) (cut k (T.drop 1)))))::grp (cut k (T.drop (1+lead (hd (e.1.drop k,e.2)) (cut k (T.drop 1))))):=by
 cases T with
 |nil=>simp at h
 |cons x r=>
  simp only[List.getElem?_cons_zero,Option.some.injEq]at h;subst h;rw[zCx,zCw,cut_tl,zLm,zHk,zCx];simp only[List.drop_succ_cons,List.drop_zero,Nat.add_comm 1];rw[zHk]
theorem zXw{k n:Nat}{T:List En}(h:∀e∈cut k T,e.1≠[])(hn:n≤T.length):bulk (cut (k+1) (T.take n))+n+bulk (cut k (T.drop n))=bulk (cut k T):=by
 have h1:=zPj (cut k (T.take n)) (fun x hx=>h x (by rw[zLm]at hx;exact List.mem_of_mem_take hx));rw[←cut_tl,zPa,List.length_take,Nat.min_eq_left hn]at h1;rw[h1,←zIo,zLm,zHk,List.take_append_drop]
theorem fin_cut{k:Nat}{l:List En}{e:En}(h:l[0]?=some e)(hk:k≤e.1.length):(e.1.length=k→zDg (cut k l)=true∧zAk (cut k l)=cut k (l.drop 1)∧zC1 (cut k l)=e.2-least l)∧(e.1.length≠k→zDg (cut k l)=false∧zAk (cut k l)=cut k l∧zC1 (cut k l)=0):=by
 cases l with
 |nil=>simp at h
 |cons x r=>
  simp only[List.getElem?_cons_zero,Option.some.injEq]at h;subst h;have hl:=zFt k (x::r);rw[zCx]at hl ⊢;constructor
  · intro he
    rw[List.drop_of_length_le (by omega)]at hl ⊢;exact⟨rfl,rfl,by simp only[zC1];rw[hl]⟩
  · intro he
    cases hd:x.1.drop k with
    |nil=>rw[List.drop_eq_nil_iff]at hd;omega
    |cons c t=>exact⟨rfl,rfl,rfl⟩
theorem zQ1{l:List En}{lo hi:Int}(h:l≠[])(hw:∀e∈l,lo≤e.2∧e.2≤hi):lo≤least l∧least l≤hi:=by
 obtain⟨e,he,h1⟩:=zB8 h;rw[←h1];exact hw e he
end Fm
namespace Nums
def u8(n:Int):UInt8:=UInt8.ofNat n.toNat
def wr(r:Int):List UInt8:=(wrI r).map u8
theorem zD2{x:Int}(h0:0≤x)(h:x<256):((u8 x).toNat:Int)=x:=by
 unfold u8;rw[UInt8.toNat_ofNat_of_lt' (by show x.toNat<256;omega)];omega
theorem zKh(b:UInt8){x:Int}(h:x=(b.toNat:Int)):u8 x=b:=by
 subst h;unfold u8;simp
theorem zLq(b:UInt8)(l:List UInt8):bt (b::l) 0=(b.toNat:Int):=rfl
theorem zGy(b:UInt8)(l:List UInt8)(i:Nat):bt (b::l) (i+1)=bt l i:=rfl
theorem zLz(r:Int):(wr r).length=(wrI r).length:=by simp[wr]
theorem rd_wr{r:Int}(h:isR r=true)(t:List UInt8):rd (wr r++t)=(r,(wrI r).length):=by
 have hb:=of_decide_eq_true h;by_cases a:r<128
 · have e:wr r=[u8 r]:=by unfold wr;rw[wrI1 a];rfl
   have v:=zD2 (x:=r) (by omega) (by omega);rw[e,wrI1 a,rd_one (by show((u8 r).toNat:Int)<128;omega)];show(((u8 r).toNat:Int),1)=_;rw[v];rfl
 by_cases b:r<2048
 · have e:wr r=[u8 (192+r/64),u8 (128+r%64)]:=by unfold wr;rw[wrI2 (by omega) b];rfl
   have v0:=zD2 (x:=192+r/64) (by omega) (by omega);have v1:=zD2 (x:=128+r%64) (by omega) (by omega);rw[e,wrI2 (by omega) b];generalize hl:[u8 (192+r/64),u8 (128+r%64)]++t=l;(have b0:bt l 0=192+r/64:=by rw[←hl];exact v0);(have b1:bt l 1=128+r%64:=by rw[←hl];exact v1);(have hn:2≤l.length:=by rw[←hl];simp);have ha:acc (ldOf 2) l 2=r:=by show acc 192 l 2=r;rw[acc2,b0,b1];omega
   rw[zQi (n:=2) (by omega) (by omega) (by rw[b0];unfold ldSz;rw[if_neg (by omega),if_neg (by omega),if_pos (by omega)];rfl) hn
    (fun j x y => by obtain rfl : j = 1 := by omega
                     rw[b1];omega) (by rw[ha];show(128:Int)≤r;omega) (by rw[ha];exact h),ha]
   rfl
 by_cases c:r<65536
 · have e:wr r=[u8 (224+r/64/64),u8 (128+r/64%64),u8 (128+r%64)]:=by unfold wr;rw[wrI3 (by omega) c];rfl
   have v0:=zD2 (x:=224+r/64/64) (by omega) (by omega);have v1:=zD2 (x:=128+r/64%64) (by omega) (by omega);have v2:=zD2 (x:=128+r%64) (by omega) (by omega);rw[e,wrI3 (by omega) c];generalize hl:[u8 (224+r/64/64),u8 (128+r/64%64),u8 (128+r%64)]++t=l;(have b0:bt l 0=224+r/64/64:=by rw[←hl];exact v0);(have b1:bt l 1=128+r/64%64:=by rw[←hl];exact v1);(have b2:bt l 2=128+r%64:=by rw[←hl];exact v2);(have hn:3≤l.length:=by rw[←hl];simp);have ha:acc (ldOf 3) l 3=r:=by show acc 224 l 3=r;rw[acc3,b0,b1,b2];omega
   rw[zQi (n:=3) (by omega) (by omega) (by rw[b0];unfold ldSz;rw[if_neg (by omega),if_neg (by omega),if_neg (by omega),if_pos (by omega)];rfl) hn
    (fun j x y => by obtain rfl | rfl : j = 1 ∨ j = 2 := by omega
                     · rw[b1];omega
                     · rw[b2];omega) (by rw[ha];show(2048:Int)≤r;omega) (by rw[ha];exact h),ha]
   rfl
 · have e:wr r=[u8 (240+r/64/64/64),u8 (128+r/64/64%64),u8 (128+r/64%64),u8 (128+r%64)]:=by unfold wr;rw[wrI4 (by omega)];rfl
   have v0:=zD2 (x:=240+r/64/64/64) (by omega) (by omega);have v1:=zD2 (x:=128+r/64/64%64) (by omega) (by omega);have v2:=zD2 (x:=128+r/64%64) (by omega) (by omega);have v3:=zD2 (x:=128+r%64) (by omega) (by omega);rw[e,wrI4 (by omega)];generalize hl:[u8 (240+r/64/64/64),u8 (128+r/64/64%64),u8 (128+r/64%64),u8 (128+r%64)]++t=l;(have b0:bt l 0=240+r/64/64/64:=by rw[←hl];exact v0);(have b1:bt l 1=128+r/64/64%64:=by rw[←hl];exact v1);(have b2:bt l 2=128+r/64%64:=by rw[←hl];exact v2);(have b3:bt l 3=128+r%64:=by rw[←hl];exact v3);(have hn:4≤l.length:=by rw[←hl];simp);have ha:acc (ldOf 4) l 4=r:=by show acc 240 l 4=r;rw[acc4,b0,b1,b2,b3];omega
   rw[zQi (n:=4) (by omega) (by omega) (by rw[b0];unfold ldSz;rw[if_neg (by omega),if_neg (by omega),if_neg (by omega),if_neg (by omega),if_pos (by omega)];rfl) hn
    (fun j x y => by obtain rfl | rfl | rfl : j = 1 ∨ j = 2 ∨ j = 3 := by omega
                     · rw[b1];omega
                     · rw[b2];omega
                     · rw[b3];omega) (by rw[ha];show(65536:Int)≤r;omega) (by rw[ha];exact h),ha]
   rfl
theorem take1{l:List UInt8}(h:l≠[]):[u8 (bt l 0)]++l.drop 1=l:=by
 cases l with
 |nil=>exact absurd rfl h
 |cons b t=>simp[zKh b (zLq b t)]
theorem take2{l:List UInt8}(h:2≤l.length):[u8 (bt l 0),u8 (bt l 1)]++l.drop 2=l:=by
 cases l with
 |nil=>simp at h
 |cons b t=>
  have:=take1 (l:=t) (by intro e;subst e;simp at h);simp[zKh b (zLq b t),zGy b t 0]at *;exact this
theorem take3{l:List UInt8}(h:3≤l.length):[u8 (bt l 0),u8 (bt l 1),u8 (bt l 2)]++l.drop 3=l:=by
 cases l with
 |nil=>simp at h
 |cons b t=>
  have:=take2 (l:=t) (by simpa using h);simp[zKh b (zLq b t),zGy b t 0,zGy b t 1]at *;exact this
theorem take4{l:List UInt8}(h:4≤l.length):[u8 (bt l 0),u8 (bt l 1),u8 (bt l 2),u8 (bt l 3)]++l.drop 4=l:=by
 cases l with
 |nil=>simp at h
 |cons b t=>
  have:=take3 (l:=t) (by simpa using h);simp[zKh b (zLq b t),zGy b t 0,zGy b t 1,zGy b t 2]at *;exact this
theorem zUu{l:List UInt8}(hl:l≠[]){r:Int}{n:Nat}(h:rd l=(r,n))(hn:n≠0):isR r=true∧n=(wrI r).length∧l=wr r++l.drop n:=by
 have hr:isR r=true:=by have:=rd_isR (l:=l) (by rw[h];exact hn);rw[h]at this;exact this
 have hbd:=of_decide_eq_true hr;have c0:=zXy l 0;refine⟨hr,?_⟩;revert h;unfold rd;by_cases a:bt l 0<128
 · rw[if_pos a]
   intro e;obtain⟨rfl,rfl⟩:=Prod.mk.inj e;refine⟨by rw[wrI1 a];rfl,?_⟩;unfold wr;rw[wrI1 a];exact(take1 hl).symm
 rw[if_neg a]
 split
 · rename_i c
   intro e;obtain⟨rfl,rfl⟩:=Prod.mk.inj e;rw[acc2]at *;have e1:=wrI2 (r:=(bt l 0-192)*64+(bt l 1-128)) (by omega) (by omega);refine⟨by rw[e1];rfl,?_⟩;unfold wr;rw[e1];(have f0:192+((bt l 0-192)*64+(bt l 1-128))/64=bt l 0:=by omega);(have f1:128+((bt l 0-192)*64+(bt l 1-128))%64=bt l 1:=by omega);rw[f0,f1];exact(take2 c.2.2.1).symm
 split
 · rename_i c
   intro e;obtain⟨rfl,rfl⟩:=Prod.mk.inj e;rw[acc3]at *;have e1:=wrI3 (r:=((bt l 0-224)*64+(bt l 1-128))*64+(bt l 2-128)) (by omega) (by omega);refine⟨by rw[e1];rfl,?_⟩;unfold wr;rw[e1];(have f0:224+(((bt l 0-224)*64+(bt l 1-128))*64+(bt l 2-128))/64/64=bt l 0:=by omega);(have f1:128+(((bt l 0-224)*64+(bt l 1-128))*64+(bt l 2-128))/64%64=bt l 1:=by omega);(have f2:128+(((bt l 0-224)*64+(bt l 1-128))*64+(bt l 2-128))%64=bt l 2:=by omega);rw[f0,f1,f2];exact(take3 c.2.2.1).symm
 split
 · rename_i c
   intro e;obtain⟨rfl,rfl⟩:=Prod.mk.inj e;rw[acc4]at *;have e1:=wrI4 (r:=(((bt l 0-240)*64+(bt l 1-128))*64+(bt l 2-128))*64+(bt l 3-128)) (by omega);refine⟨by rw[e1];rfl,?_⟩;unfold wr;rw[e1];(have f0:240+((((bt l 0-240)*64+(bt l 1-128))*64+(bt l 2-128))*64+(bt l 3-128))/64/64/64=bt l 0:=by omega);(have f1:128+((((bt l 0-240)*64+(bt l 1-128))*64+(bt l 2-128))*64+(bt l 3-128))/64/64%64=bt l 1:=by omega);(have f2:128+((((bt l 0-240)*64+(bt l 1-128))*64+(bt l 2-128))*64+(bt l 3-128))/64%64=bt l 2:=by omega);(have f3:128+((((bt l 0-240)*64+(bt l 1-128))*64+(bt l 2-128))*64+(bt l 3-128))%64=bt l 3:=by omega);rw[f0,f1,f2,f3];exact(take4 c.2.2.1).symm
 intro e;exact absurd (Prod.mk.inj e).2.symm hn
end Nums
namespace Nums
theorem pair_eta(p:Int×Nat):p=(p.1,p.2):=by cases p;rfl
theorem zUj:∀(f:Nat) (l:List UInt8) (xs:List Int),rsF f l=some xs→xs.all isR=true∧xs.flatMap wr=l:=by
 intro f
 induction f with
 |zero=>
  intro l xs h;simp only[rsF]at h;by_cases e:l=[]
  · rw[if_pos e]at h;obtain rfl:=Option.some.inj h;subst e;simp
  · rw[if_neg e]at h;cases h
 |succ f ih=>
  intro l xs h;simp only[rsF]at h;by_cases e:l=[]
  · rw[if_pos e]at h;obtain rfl:=Option.some.inj h;subst e;simp
  rw[if_neg e]at h;by_cases z:(rd l).2=0
  · rw[if_pos z]at h;cases h
  rw[if_neg z]at h;cases h2:rsF f (l.drop (rd l).2)with
  |none=>rw[h2]at h;cases h
  |some t=>
   rw[h2]at h;obtain rfl:=Option.some.inj h;obtain⟨h3,h4⟩:=ih _ _ h2;obtain⟨hr,_,hb⟩:=zUu e (pair_eta (rd l)) z;refine⟨by simp only[List.all_cons,hr,h3,Bool.and_self],?_⟩;rw[List.flatMap_cons,h4];exact hb.symm
theorem zEp{l:List UInt8}{xs:List Int}(h:rs l=some xs):xs.all isR=true∧xs.flatMap wr=l:=zUj _ _ _ h
theorem wr_ne(r:Int):wr r≠[]:=by
 intro e;have h:=zLz r;rw[e]at h;have:=zKd r;simp at h;omega
theorem rs_wr{r:Int}(hr:isR r=true)(t:List UInt8):rs (wr r++t)=(rs t).map (fun xs=>r::xs):=by
 have h:=rd_wr hr t;have hn:wr r++t≠[]:=by
  intro e;exact wr_ne r (List.append_eq_nil_iff.1 e).1
 have hl:=zKd r;rw[zUi hn (by rw[h];show(wrI r).length≠0;omega),h];show(rs ((wr r++t).drop (wrI r).length)).map _=_;rw[←zLz r,List.drop_left]
theorem zQb:∀(xs:List Int),xs.all isR=true→∀t,rs (xs.flatMap wr++t)=(rs t).map (fun ys=>xs++ys)
 |[],_,t=>by simp
 |x::xs,h,t=>by
  have h1:isR x=true:=by simp at h;exact h.1
  have h2:xs.all isR=true:=by simp at h;simpa using h.2
  rw[List.flatMap_cons,List.append_assoc,rs_wr h1,zQb xs h2 t];cases rs t<;>simp
theorem rs_text{xs:List Int}(h:xs.all isR=true):rs (xs.flatMap wr)=some xs:=by
 have:=zQb xs h [];rw[List.append_nil,rs_nil]at this;simpa using this
theorem zSv(xs:List Int):(xs.flatMap wrI).map (fun n=>UInt8.ofNat n.toNat)=xs.flatMap wr:=by
 induction xs with
 |nil=>rfl
 |cons x r ih=>rw[List.flatMap_cons,List.flatMap_cons,List.map_append,ih];rfl
end Nums
section
open Go.RowKit Nums
def Row(w:World)(v:Value)(xs:List Int):Prop:=
 ∃ao cap,v = .slice ao xs.length cap∧(0<xs.length→∃b off,ao=some ⟨b,off,none⟩∧∀i,i<xs.length→w.cell? ⟨b,off+i,none⟩=some (.int .i32 (xs.getD i 0)))
theorem Bytes.back{B:Nat}{w:World}{v:Value}{xs:List Int}(h:Bytes B w v xs):(convert 68 9 v).run Tryz.prog w = .ok (.string (strOfNums xs)) w:=by
 obtain⟨hl,hn|⟨g,cap,cur,rfl,hb,hg,h1,h2,h3,h4⟩⟩:=h
 · obtain⟨rfl,h0⟩:=hn
   have e:xs=[]:=List.length_eq_zero_iff.1 h0;subst e;exact run_convert_bytes_nil w 68 5 Tryz.underlying68 Tryz.underlying5 0 0 9 Tryz.underlying9
 · refine run_convert_bytes_arg w 68 5 Tryz.underlying68 Tryz.underlying5 g 0 xs.length cap xs rfl (fun i hi=>?_) 9 Tryz.underlying9
   have hc:cur[i]?=some (.int .u8 (xs.getD i 0)):=by
    (have e:(cur.toList.take (xs.length*1))[i]?=(xs.map (Value.int .u8))[i]?:=by rw[h4]);rw[List.getElem?_take,if_pos (by omega)]at e;rw[←Array.getElem?_toList,e,List.getElem?_map,List.getElem?_eq_getElem hi];simp[List.getD_eq_getElem?_getD,List.getElem?_eq_getElem hi]
   simp only[World.cell?,hg,Nat.zero_add];simpa using hc
def allR(xs:List Int):Bool:=xs.all isR
def zAv(xs:List Int):ByteArray:=if allR xs=true then strOfNums (xs.flatMap wrI)else ByteArray.empty
theorem zLf(xs:List Int):(xs.flatMap wrI).length≤4*xs.length:=by
 induction xs with
 |nil=>simp
 |cons x r ih=>have:=zKd x;rw[List.flatMap_cons,List.length_append,List.length_cons];omega
theorem zT4(xs:List Int)(k:Nat)(h:k<xs.length):xs.take (k+1)=xs.take k++[xs.getD k 0]:=by
 rw[List.take_succ_eq_append_getElem h];simp[List.getD_eq_getElem?_getD,List.getElem?_eq_getElem h]
theorem text_no{xs:List Int}{k:Nat}(h:k<xs.length)(hr:isR (xs.getD k 0)=false):allR xs=false:=by
 have hm:xs.getD k 0∈xs:=by simp[List.getD_eq_getElem?_getD,List.getElem?_eq_getElem h]
 cases e:allR xs
 · rfl
 · have:=List.all_eq_true.1 e _ hm;rw[hr]at this;cases this
theorem zWa{r:Int}(h:isR r=true):0≤r∧r<1114112:=by
 have:=of_decide_eq_true h;omega
set_option maxHeartbeats 2000000 in
theorem zLu(v:Value)(xs:List Int)(w:World)(ht:Tabs w)(hrow:Row w v xs)(hl:xs.length*4≤140737488355328):
 Calls Tryz.prog 153 #[v] w fun e w'=>e = .returned (.tuple #[.string (zAv xs),.bool (allR xs)])∧Below w.heap.size w w':=by
 obtain⟨i0,hi,hz0,hz1,hz2⟩:=info_parts zFx;obtain⟨ao,cap,rfl,hcells⟩:=hrow;have HC:Hid (0<xs.length→∃b off,ao=some ⟨b,off,none⟩∧∀i,i<xs.length→w.cell? ⟨b,off+i,none⟩=some (.int .i32 (xs.getD i 0))):=hcells;clear hcells;go_enter Tryz.func153,Tryz.ntmps153;go_wp2_with (at_make;refine wpList_make_own _ rfl _ _ 68 rfl w.heap.size 5 i0 (.int .u8 0) 1 Tryz.underlying68 hi hz0 hz1 _ _ _ xs.length rfl rfl (by omega) (by rw[hz2];omega) (by unfold maxLen;omega) (Nat.le_refl _) ?_;intro w0 hown0 hgrow0);have hb0:Below w.heap.size w w0:=(Below.refl _ _).grown hgrow0 (Nat.le_refl _) (fun k hk=>by cases hk);have HO0:Hid (Bytes w.heap.size w0 (.slice (some ⟨w.heap.size,0,none⟩) 0 xs.length) []):=hown0;clear hown0 hgrow0
 go_loopw [4,12] (fun vb i wr=>∃k:Nat,k≤xs.length∧i = .int .i64 k∧Bytes w.heap.size wr vb ((xs.take k).flatMap wrI)∧allR (xs.take k)=true∧Below w.heap.size w wr)
  (fun _ i _=>xs.length-(intOf i).toNat)
 case atStart=>exact⟨0,Nat.zero_le _,rfl,HO0.out,rfl,hb0⟩
 case round=>
  obtain⟨k,hk,rfl,hown,hall,hbel⟩:=hrel;have HA:Hid (allR (xs.take k)=true):=hall;clear hall;have htr:Tabs wr:=ht.below hbel;by_cases hlt:k<xs.length
  · obtain⟨b,off,rfl,hc⟩:=HC.out (by omega)
    have hck:wr.cell? ⟨b,off+k,none⟩=some (.int .i32 (xs.getD k 0)):=by
     rw[hbel.cell (p:=⟨b,off+k,none⟩) (zAq (hc k hlt))];exact hc k hlt
    clear hc HC HO0;have hnx:=zT4 xs k hlt;generalize hx:xs.getD k 0=x at *;have HX:Hid (xs.getD k 0=x):=hx;have HN:Hid (xs.take (k+1)=xs.take k++[x]):=hnx;clear hnx hx;cases hr:isR x
    · have HR:Hid (isR x=false):=hr
      clear hr;have HF:Hid (allR xs=false):=text_no hlt (by rw[HX.out];exact HR.out);go_wp2_with (go_at_call 132;refine(zDf _ _).mono ?_;rintro e w' ⟨rfl,rfl⟩;rw[HR.out]);go_ret2;refine⟨?_,hbel⟩;rw[HF.out,show zAv xs=ByteArray.empty by unfold zAv;rw[HF.out];rfl];rfl
    · have HR:Hid (isR x=true):=hr
      clear hr;have hbd:=zWa HR.out;have hfl:=zLf (xs.take k);rw[List.length_take]at hfl
      go_wp2_with (first
       |(go_at_call 132;refine(zDf _ _).mono ?_;rintro e w' ⟨rfl,rfl⟩;rw[HR.out])
       |(go_at_call 176;refine(zJa w.heap.size _ ((xs.take k).flatMap wrI) x _ htr hown hbel.size (by omega) hbd.1 hbd.2).mono ?_;rintro e w1 ⟨v1,rfl,hown1,hb1⟩))
      go_roundw
      case rel=>
       refine⟨k+1,by omega,by go_num,?_,?_,hbel.trans hb1⟩
       · rw[HN.out,List.flatMap_append];simpa using hown1
       · rw[HN.out];have:=HA.out;unfold allR at *;rw[List.all_append,this];simp[HR.out]
      case measure=>simp[intOf];omega
  · obtain rfl:k=xs.length:=by omega
    have hfull:xs.take xs.length=xs:=List.take_length;(have HO:Hid (Bytes w.heap.size wr u4 (xs.flatMap wrI)):=by rw[hfull]at hown;exact hown);(have HF:Hid (allR xs=true):=by have:=HA.out;rw[hfull]at this;exact this);have hconv:=HO.out.back;clear hfull hown HA;go_wp2;go_ret2;refine⟨?_,hbel⟩;rw[HF.out,show zAv xs=strOfNums (xs.flatMap wrI)by unfold zAv;rw[HF.out];rfl];rfl
end
namespace Nums
def sd(l:List UInt8)(n:Nat):Int:=
 if n=1 then bt l 0 else if n=2 then bt l 0%32*64+bt l 1%64
 else if n=3 then (bt l 0%16*64+bt l 1%64)*64+bt l 2%64
 else ((bt l 0%8*64+bt l 1%64)*64+bt l 2%64)*64+bt l 3%64
theorem sd1(l:List UInt8):sd l 1=bt l 0:=rfl
theorem sd2(l:List UInt8):sd l 2=bt l 0%32*64+bt l 1%64:=rfl
theorem sd3(l:List UInt8):sd l 3=(bt l 0%16*64+bt l 1%64)*64+bt l 2%64:=rfl
theorem sd4(l:List UInt8):sd l 4=((bt l 0%8*64+bt l 1%64)*64+bt l 2%64)*64+bt l 3%64:=rfl
theorem rd_zero{l:List UInt8}(h:(rd l).2=0):rd l=(0,0):=by
 revert h;unfold rd;by_cases c1:bt l 0<128
 · rw[if_pos c1];intro h;cases h
 rw[if_neg c1]
 split
 · intro h;cases h
 split
 · intro h;cases h
 split
 · intro h;cases h
 intro _;rfl
theorem rd_said{l:List UInt8}(h:(rd l).2≠0):(rd l).1=sd l (rd l).2:=by
 have c0:=zXy l 0;revert h;unfold rd;by_cases c1:bt l 0<128
 · rw[if_pos c1];intro _;exact(sd1 l).symm
 rw[if_neg c1]
 split
 · rename_i c;intro _
   show acc 192 l 2=sd l 2;rw[acc2,sd2];omega
 split
 · rename_i c;intro _
   show acc 224 l 3=sd l 3;rw[acc3,sd3];omega
 split
 · rename_i c;intro _
   show acc 240 l 4=sd l 4;rw[acc4,sd4];omega
 intro h;exact absurd rfl h
theorem zWw{l:List UInt8}{n:Nat}(hn:n≤l.length)(hr:isR (sd l n)=true)(hw:wr (sd l n)=l.take n):rd l=(sd l n,n):=by
 have h:=rd_wr hr (l.drop n);rw[hw,List.take_append_drop]at h;rw[h];have:(wr (sd l n)).length=(l.take n).length:=by rw[hw]
 rw[zLz,List.length_take]at this;rw[this,Nat.min_eq_left hn]
theorem zRc{l:List UInt8}(hl:l≠[]){n:Nat}(h1:1≤n)(h:¬(isR (sd l n)=true∧wr (sd l n)=l.take n)):(rd l).2≠n:=by
 intro e;have h0:(rd l).2≠0:=by omega
 have hs:=rd_said h0;rw[e]at hs;obtain⟨hr,hlen,hb⟩:=zUu hl (r:=sd l n) (n:=n) (Prod.ext hs e) (by omega);refine h ⟨hr,?_⟩;have e2:l.take n=(wr (sd l n)++l.drop n).take n:=congrArg (List.take n) hb;rw[e2,List.take_append_of_le_length (by rw[zLz];omega),List.take_of_length_le (by rw[zLz];omega)]
theorem sd_bd(l:List UInt8)(n:Nat):0≤sd l n∧sd l n<2097152:=by
 have c0:=zXy l 0;unfold sd;by_cases h1:n=1
 · rw[if_pos h1];omega
 rw[if_neg h1];by_cases h2:n=2
 · rw[if_pos h2];omega
 rw[if_neg h2];by_cases h3:n=3
 · rw[if_pos h3];omega
 rw[if_neg h3];omega
end Nums
section
open Go.RowKit Pm
namespace Bt
def ins(m:Mt):List Mt→List Mt
 |[]=>[m]
 |y::r=>if btr m y then m::y::r else y::ins m r
def Srt(l:List Mt):Prop:=l.Pairwise fun a b=>btr b a=false
theorem zFv(m:Mt):∀l:List Mt,(ins m l).Perm (m::l)
 |[] => .refl _
 |y::r=>by
  unfold ins
  split
  · exact .refl _
  · exact((zFv m r).cons y).trans (.swap _ _ _)
theorem ins_len(m:Mt)(l:List Mt):(ins m l).length=l.length+1:=(zFv m l).length_eq
theorem zWc(m:Mt):∀l:List Mt,Srt l→Srt (ins m l)
 |[],_=>List.pairwise_singleton _ _
 |y::r,h=>by
  have h':=List.pairwise_cons.1 h;unfold ins
  split
  · rename_i hb
    refine List.pairwise_cons.2 ⟨fun a ha=>?_,h⟩;rcases List.mem_cons.1 ha with rfl|ha
    · exact asy hb
    · exact zEa (h'.1 a ha) (asy hb)
  · rename_i hb
    refine List.pairwise_cons.2 ⟨fun a ha=>?_,zWc m r h'.2⟩;rcases List.mem_cons.1 ((zFv m r).mem_iff.1 ha)with rfl|ha
    · simpa using hb
    · exact h'.1 a ha
def stp(k:Nat)(o:List Mt)(m:Mt):List Mt:=(ins m o).take k
def bestF(k:Nat)(l:List Mt):List Mt:=l.foldl (stp k) []
def isort(l:List Mt):List Mt:=l.foldl (fun o m=>ins m o) []
theorem zTf(k:Nat)(l:List Mt)(m:Mt):bestF k (l++[m])=stp k (bestF k l) m:=by simp[bestF,List.foldl_append]
theorem zIw(y:Mt)(r:List Mt):∀k,(y::r.take k).take k=(y::r).take k
 |0=>rfl
 |k+1=>by rw[List.take_succ_cons,List.take_succ_cons,List.take_take,Nat.min_eq_left (by omega)]
theorem zQ5(m:Mt):∀(o:List Mt) (k:Nat),(ins m (o.take k)).take k=(ins m o).take k
 |[],k=>by simp
 |_::_,0=>by simp
 |y::r,k+1=>by
  rw[List.take_succ_cons];unfold ins
  split
  · rw[List.take_succ_cons,List.take_succ_cons,zIw]
  · rw[List.take_succ_cons,List.take_succ_cons,zQ5 m r k]
theorem zJx(k:Nat):∀(l o:List Mt),l.foldl (stp k) (o.take k)=(l.foldl (fun o m=>ins m o) o).take k
 |[],_=>rfl
 |m::r,o=>by
  rw[List.foldl_cons,List.foldl_cons,←zJx k r (ins m o)];congr 1;exact zQ5 m o k
theorem zPm(k:Nat)(l:List Mt):bestF k l=(isort l).take k:=by
 have:=zJx k l [];rw[List.take_nil]at this;exact this
theorem zM1:∀(l o:List Mt),(l.foldl (fun o m=>ins m o) o).Perm (l++o)
 |[],_ => .refl _
 |m::r,o=>by
  rw[List.foldl_cons];refine(zM1 r (ins m o)).trans ?_;exact((List.perm_append_left_iff r).2 (zFv m o)).trans List.perm_middle
theorem zSs(l:List Mt):(isort l).Perm l:=by have:=zM1 l [];rwa [List.append_nil]at this
theorem bestF_len(k:Nat)(l:List Mt):(bestF k l).length=min k l.length:=by rw[zPm,List.length_take,(zSs l).length_eq]
structure Kp(k:Nat)(out h:List Mt):Prop where
 hp:Hp h.length h
 perm:h.Perm out
 srt:Srt out
 len:out.length≤k
theorem Kp.nil(k:Nat):Kp k [] []:=⟨fun _ _ h=>by simp at h,.refl _,.nil,Nat.zero_le _⟩
theorem Kp.worst{k:Nat}{out h:List Mt}(K:Kp k out h)(h0:0<h.length):∃ini,out=ini++[el h 0]:=by
 have hne:out≠[]:=fun e=>by have:=K.perm.length_eq;rw[e,List.length_nil]at this;omega
 obtain⟨ini,z,rfl⟩:∃ini z,out=ini++[z]:=⟨out.dropLast,out.getLast hne,(List.dropLast_concat_getLast hne).symm⟩;refine⟨ini,?_⟩;have hz:z∈h:=K.perm.mem_iff.2 (by simp);obtain⟨i,hi,e⟩:=List.getElem_of_mem hz;have e1:el h i=z:=by unfold el;rw[List.getElem?_eq_getElem hi,e];rfl
 have h1:=K.hp.root i hi;rw[e1]at h1;have hm:el h 0∈ini++[z]:=K.perm.mem_iff.1 (List.mem_of_getElem? (zW2 h0));rcases List.mem_append.1 hm with hm|hm
 · have h2:=(List.pairwise_append.1 K.srt).2.2 _ hm z (by simp)
   rw[zDv.3 _ _ h1 h2]
 · rw[List.mem_singleton.1 hm]
theorem stp_room{k:Nat}{out:List Mt}(m:Mt)(h:out.length<k):stp k out m=ins m out:=by
 unfold stp;exact List.take_of_length_le (by rw[ins_len];omega)
theorem zWf(m:Mt):∀l:List Mt,(∀y∈l,btr m y=false)→ins m l=l++[m]
 |[],_=>rfl
 |y::r,h=>by
  unfold ins;rw[h y (by simp),if_neg (by simp),zWf m r (fun z hz=>h z (by simp[hz]))];rfl
theorem zMw(m z:Mt)(hz:btr m z=true):∀l:List Mt,ins m (l++[z])=ins m l++[z]
 |[]=>by simp[ins,hz]
 |y::r=>by
  rw[List.cons_append];unfold ins
  split
  · rfl
  · rw[zMw m z hz r];rfl
theorem stp_no{k:Nat}{ini:List Mt}{z:Mt}(m:Mt)(hs:Srt (ini++[z]))(hk:k=ini.length+1)(hb:btr m z=false):stp k (ini++[z]) m=ini++[z]:=by
 unfold stp;rw[zWf m _ (fun y hy=>by
  rcases List.mem_append.1 hy with hy|hy
  · exact zEa hb ((List.pairwise_append.1 hs).2.2 y hy z (by simp))
  · rw[List.mem_singleton.1 hy];exact hb)]
 exact List.take_left' (by simp[hk])
theorem stp_yes{k:Nat}{ini:List Mt}{z:Mt}(m:Mt)(hk:k=ini.length+1)(hb:btr m z=true):stp k (ini++[z]) m=ins m ini:=by
 unfold stp;rw[zMw m z hb];exact List.take_left' (by rw[ins_len,hk])
theorem stp_zero(out:List Mt)(m:Mt):stp 0 out m=[]:=rfl
theorem Kp.add{k:Nat}{out h h':List Mt}(K:Kp k out h)(m:Mt)(hr:out.length<k)(hh:Hp h'.length h')(hp:h'.Perm (h++[m])):Kp k (ins m out) h':=
 ⟨hh,hp.trans ((List.perm_append_singleton m h).trans ((K.perm.cons m).trans (zFv m out).symm)),zWc m out K.srt,by rw[ins_len];omega⟩
theorem Kp.less{k:Nat}{ini h h':List Mt}{z:Mt}(K:Kp k (ini++[z]) h)(hh:Hp h'.length h')(hp:(z::h').Perm h):Kp k ini h':=by
 refine⟨hh,?_,(List.pairwise_append.1 K.srt).1,by have:=K.len;simp at this;omega⟩;exact List.Perm.cons_inv (hp.trans (K.perm.trans (List.perm_append_singleton z ini)))
theorem Kp.same_len{k:Nat}{out h:List Mt}(K:Kp k out h):h.length=out.length:=K.perm.length_eq
end Bt
end
