import Derived.Test.YtkdhdehobdfakaaGreatDoorJ43
set_option maxRecDepth 100000
set_option maxHeartbeats 8000000
namespace Go.Proofs.YtkdhdehobdfakaaGreatDoor
section
open Go.RowKit Go.Shelf Go.Lib Nums Fm Pk Pm Fz Ed Lv
def allL(l:List Pr)(word:List UInt8)(e:Int):List Mt:=if Go.Proofs.YtkdhdehobdfakaaGreatDoor.rightB word e=true then zDh ((rs word).getD []) e.toNat l else []
def allC(word:List UInt8)(e:Int):Int:=if Go.Proofs.YtkdhdehobdfakaaGreatDoor.rightB word e=true then 0 else 110
theorem zR6(l:List Pr)(word:List UInt8)(e:Int):(allL l word e).length≤l.length:=by
 unfold allL
 split
 · exact zS6 _ _ _
 · exact Nat.zero_le _
theorem AllSays.told{w w':World}{l:List Pr}{word:List UInt8}{e:Int}{v:Value}{c:Int}(h:AllSays w w' l word e v c):c=allC word e∧GOwn 52 3 w.heap.size w' v ((allL l word e).map cellsM)∧Below w.heap.size w w':=by
 obtain⟨hb,⟨hr,rfl,rfl⟩|⟨hr,rfl,xs,d,hx,rfl,_,_,hG⟩⟩:=h
 · refine⟨by rw[allC,hr];rfl,?_,hb⟩
   rw[allL,hr];exact GOwn.nil _ _ _ _
 · refine⟨by rw[allC,hr];rfl,?_,hb⟩
   rw[allL,if_pos hr,hx];exact hG
theorem All_told(w:World)(wb:Nat)(l:List Pr)(hon:WkOn w wb l)(word:ByteArray)(e:Int)(hm:word.size≤9223372036854775807):
 Calls Tryz.prog 32 #[.pointer (some ⟨wb,0,none⟩),.string word,.int .i64 e] w fun x w'=>∃ad cap,x = .returned (.tuple #[.slice ad (allL l word.data.toList e).length cap,.int .i64 (allC word.data.toList e)])∧MRow w' (.slice ad (allL l word.data.toList e).length cap) (allL l word.data.toList e)∧Below w.heap.size w w':=by
 refine(All_any w wb l hon word e hm).mono ?_;rintro x w' ⟨v,c,rfl,h⟩;obtain⟨rfl,hG,hb⟩:=h.told;obtain⟨ad,cap,hv,_⟩:=GOwn.shape hG;rw[List.length_map]at hv;subst hv;exact⟨ad,cap,rfl,GOwn.reads hG,hb⟩
namespace Mg
def fOf(C:List Pr)(x:Mq.Pr):Bool:=!hasW C x.1
theorem zWs(C:List Pr){l:List Mq.Pr}{k:Nat}{x:Mq.Pr}(hx:l[k]?=some x):(l.take (k+1)).filter (fOf C)=(l.take k).filter (fOf C)++(if hasW C x.1 then []else [x]):=by
 rw[zMm hx,List.filter_append];cases h:hasW C x.1<;>simp[fOf,h]
theorem put_snoc{C:List Pr}{word:List UInt8}{e:Int}{k:Nat}{p:Pr}(hx:C[k]?=some p):(C.take (k+1)).filterMap (mtch word e)=(C.take k).filterMap (mtch word e)++(mtch word e p).toList:=by
 rw[zMm hx,List.filterMap_append];cases h:mtch word e p<;>simp[h]
def zLy(l:List Mq.Pr)(C:List Pr)(word:List UInt8)(e:Int):List Mq.Pr:=l.filter (fOf C)++C.filterMap (mtch word e)
def mgL(l:List Mq.Pr)(over:List Pr)(word:List UInt8)(e:Int):List Mq.Pr:=if Go.Proofs.YtkdhdehobdfakaaGreatDoor.rightB word e=true then zEf zAa (zLy l (norm zAa over) word e)else []
theorem zXa{C:List Pr}(hC:SUp zAa C)(k:ByteArray):hasW C k=(Pm.find C k).isSome:=by
 unfold hasW;rw[Bool.eq_iff_iff,decide_eq_true_iff];constructor
 · rintro⟨p,hp,rfl⟩
   rw[SUp.find_of_mem lessB_sto hC hp];rfl
 · intro h
   obtain⟨v,hv⟩:=Option.isSome_iff_exists.1 h;exact⟨(k,v),find_mem hv,rfl⟩
theorem zVw{word:List UInt8}{e:Int}{p:Pr}{m:Mq.Pr}(h:mtch word e p=some m):m.1=p.1:=by
 unfold mtch at h
 split at h
 · cases h
 · split at h
   · split at h
     · rw[←Option.some.inj h]
     · cases h
   · cases h
theorem zK7{f:Pr→Option Mq.Pr}(hf:∀p m,f p=some m→m.1=p.1)(k:ByteArray):∀{S:List Pr},SUp zAa S→Mq.of k (S.filterMap f)=match Pm.find S k with|some v=>(f (k,v)).toList|none=>[]
 |[],_=>by rw[zEw];rfl
 |x::r,h=>by
  obtain⟨h1,h2⟩:=List.pairwise_cons.1 h;have ih:=zK7 hf k h2;by_cases e:x.1=k
  · have hn:Pm.find r k=none:=zAy fun y hy he=>by
     have:=h1 y hy;rw[he,e,lessB_sto.irr]at this;cases this
    rw[find_cons,hn,if_pos e];rw[hn]at ih;simp only[Option.none_or];(have ex:(k,x.2)=x:=by rw[←e]);rw[ex];cases hx:f x with
    |none=>
     rw[List.filterMap_cons_none hx,ih];rfl
    |some m=>
     rw[List.filterMap_cons_some hx];have hm:m.1=k:=(hf x m hx).trans e;(have:Mq.of k (m::List.filterMap f r)=m::Mq.of k (List.filterMap f r):=by rw[←hm];exact Mq.of_cons_same m _);rw[this,ih];rfl
  · rw[find_cons,if_neg e,Option.or_none,←ih]
    cases hx:f x with
    |none=>rw[List.filterMap_cons_none hx]
    |some m=>
     rw[List.filterMap_cons_some hx,Mq.of_cons_ne (by rw[hf x m hx];exact e)]
theorem of_filt(l:List Mq.Pr)(C:List Pr)(k:ByteArray):Mq.of k (l.filter (fOf C))=if hasW C k then []else Mq.of k l:=by
 show Mq.of k (l.filter fun m=>!hasW C m.1)=_;unfold Mq.of;rw[List.filter_filter];by_cases h:hasW C k=true
 · rw[if_pos h,List.filter_eq_nil_iff]
   intro x _ hx;simp only[Bool.and_eq_true,decide_eq_true_eq,Bool.not_eq_true']at hx;rw[hx.1]at hx;rw[h]at hx;exact absurd hx.2 (by decide)
 · rw[if_neg h]
   (refine List.filter_congr fun x _=>?_);by_cases e:x.1=k
   · rw[e];simp[h]
   · simp[e]
def zK9(xs:List Int)(d:Nat)(p:Pr):Option Mq.Pr:=if lv (zCx p).1 xs≤d then some (p.1,p.2,(lv (zCx p).1 xs:Int))else none
theorem zGr{xs:List Int}{d:Nat}{p:Pr}{m:Mq.Pr}(h:zK9 xs d p=some m):m.1=p.1:=by
 unfold zK9 at h
 split at h
 · rw[←Option.some.inj h]
 · cases h
theorem fmap_sup{f:Pr→Option Mq.Pr}(hf:∀p m,f p=some m→m.1=p.1){S:List Pr}(h:SUp zAa S):Mq.SUp zAa (S.filterMap f):=by
 refine List.pairwise_filterMap.2 (h.imp fun {a b} hab m hm q hq=>?_);rw[hf a m hm,hf b q hq];exact hab
theorem near_sup{l:List Pr}(h:zAl l=0)(xs:List Int)(d:Nat):Mq.SUp zAa (zDh xs d l):=fmap_sup (f:=zK9 xs d) (fun _ _=>zGr) (zAp h).2.1
theorem zVx{word:ByteArray}{e:Int}{xs:List Int}{d:Nat}{p:Pr}(hx:rs word.data.toList=some xs)(hl:xs.length≤24)(hd:e=(d:Int))(hw:zAq p.1.data.toList=true)(hp:1≤p.2):mtch word.data.toList e p=zK9 xs d p:=by
 unfold mtch zK9;rw[if_neg (by rintro(h|h);omega;rw[hw]at h;cases h),ds_word hw hx hl];simp only;subst hd;by_cases h:lv (zCx p).1 xs≤d
 · rw[if_pos h,if_pos (by omega)]
 · rw[if_neg h,if_neg (by omega)]
theorem mg_over{l over:List Pr}{word:ByteArray}{e:Int}(hl:zAl l=0)(hb:zAl (zAe zAa l over)=0)(hr:Go.Proofs.YtkdhdehobdfakaaGreatDoor.rightB word.data.toList e=true):mgL (allL l word.data.toList e) over word.data.toList e=allL (zAe zAa l over) word.data.toList e:=by
 have hh:=hr;simp only[Go.Proofs.YtkdhdehobdfakaaGreatDoor.rightB,Bool.and_eq_true,decide_eq_true_eq]at hh;obtain⟨⟨hw,h0⟩,h3⟩:=hh;obtain⟨xs,hxs,hx1,hx24,hx96,_⟩:=zA3 (x:=(word,0)) hw;simp only at hxs;obtain⟨d,rfl⟩:∃d:Nat,e=(d:Int):=⟨e.toNat,by omega⟩;unfold mgL allL;rw[if_pos hr,if_pos hr,if_pos hr,hxs];simp only[Option.getD_some,Int.toNat_natCast];have hC:=zEa lessB_sto over;refine zSm lessB_sto (zW1 lessB_sto _) ⟨(near_sup hb xs d).up lessB_sto,fun k=>?_⟩;unfold zLy;rw[Mq.of_append,of_filt,zXa hC,zK7 (fun _ _=>zVw) k hC];have e1:Mq.of k (zDh xs d (zAe zAa l over))=match Pm.find (zAe zAa l over) k with|some v=>(zK9 xs d (k,v)).toList|none=>[]:=zK7 (f:=zK9 xs d) (fun _ _=>zGr) k (zBp lessB_sto l over)
 have e2:Mq.of k (zDh xs d l)=match Pm.find l k with|some v=>(zK9 xs d (k,v)).toList|none=>[]:=zK7 (f:=zK9 xs d) (fun _ _=>zGr) k (zAp hl).2.1
 rw[e1,e2,zCq lessB_sto,zA2 lessB_sto];have hall:=(zAp hb).1;have hall1:=(zAp hl).1;cases hf:Pm.find over k with
 |some v=>
  simp only[Option.isSome_some,if_true,List.nil_append,Option.some_or];by_cases h0:v=0
  · subst h0
    rw[show Option.filter (fun v=>!(v==0)) (some (0:Int))=none from rfl];simp only;unfold mtch;rw[if_pos (.inl (Int.le_refl _))];rfl
  · have hv:Option.filter (fun v=>!(v==0)) (some v)=some v:=by simp[Option.filter,h0]
    rw[hv];simp only;have hm:(k,v)∈zAe zAa l over:=find_mem (by rw[zA2 lessB_sto,hf];exact hv);obtain⟨g1,g2,_⟩:=hall _ hm;rw[zVx hxs hx24 rfl g1 g2]
 |none=>
  simp only[Option.isSome_none,Bool.false_eq_true,if_false,List.append_nil,Option.none_or];cases hg:Pm.find l k with
  |none=>rfl
  |some v=>
   have h1:=(hall1 _ (find_mem hg)).2.1;simp only at h1;(have hv:Option.filter (fun v=>!(v==0)) (some v)=some v:=by simp[Option.filter];omega);rw[hv]
end Mg
end
