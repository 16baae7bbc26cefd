/- Texts that were written apart, joined. -/
import Derived.Test.YthecngkdmnadoaaGreatG45
import Derived.Test.YthecngkdmnadoaaGreatG49
import Derived.Lib.SlKeysI
import Derived.Test.YthecngkdmnadoaaGreatG22
import Derived.Test.YthecngkdmnadoaaGreatSync
import Derived.Test.YthecngkdmnadoaaGreatG43
import Derived.Shelf.Lay
import Derived.Shelf.SlMaps.Clone
import Derived.Ground.SlmcProg
namespace Go.Proofs.YthecngkdmnadoaaGreat
open Go.RowKit Go.Shelf
set_option maxRecDepth 100000
namespace IterS
set_option maxHeartbeats 4000000 in
theorem rising_any{α:Type}{f:α→Value}{m:List (Int×α)}{bo:Option Nat}(w:World)(hm:(keys m).Nodup)(hl:m.length<1099511627776)
 (hr:∀W,Below w.heap.size w W→∃ob,(Instr.range 88 (.map bo)).run Tryz.prog W = .ok (.pointer (some ⟨W.heap.size,0,none⟩)) (W.alloc ob)∧Ranges .i64 f (W.alloc ob) bo W.heap.size m []):
 Calls Tryz.prog 45 #[.map bo] w fun e w'=>∃v,e = .returned v∧w'.ownsRow w.heap.size 3 1 v m.length ((SrtI.sorted (keys m)).map (Value.int .i64))∧(v = .slice none 0 0↔m=[])∧Below w.heap.size w w':=by
 have hB:Below w.heap.size w (w.alloc (.cells #[.map bo] 88)):=(Below.refl _ w).alloc (Nat.le_refl _) _;have hst:=keys1_stops (f:=f) (m:=m) (bo:=bo) Fence.wide 2 trivial rfl (by omega) w.heap.size (w.alloc (.cells #[.map bo] 88)) (by simp) (by go_simp) hm (fun W hW=>hr W (hB.trans (hW.mono hB.size)))
 have HC:Hid (Calls Tryz.prog 71 #[.func (.func 95) #[] #[.pointer (some ⟨w.heap.size,0,none⟩)]] (w.alloc (.cells #[.map bo] 88)) fun e w'=>∃v xs,e = .returned v∧xs.Perm (keys m)∧w'.ownsRow (w.alloc (.cells #[.map bo] 88)).heap.size 3 1 v xs.length ((SrtI.sorted xs).map (Value.int .i64))∧(v = .slice none 0 0↔xs=[])∧Below (w.alloc (.cells #[.map bo] 88)).heap.size (w.alloc (.cells #[.map bo] 88)) w'):=
  SrtI.Sorted_any 95 _ (enters_of Tryz.func95 (by kernel_rfl) rfl) _ hst hl (fun xs h=>by rw[h.length_eq];simp[keys])
 clear hr hst;have HB:Hid (Below w.heap.size w (w.alloc (.cells #[.map bo] 88))):=hB;clear hB;go_enter Tryz.func45,Tryz.ntmps45;go_wp2_with (first|(go_at_call 72;refine(Keys_any bo _).mono ?_;rintro e w1 ⟨rfl,rfl⟩)|(go_at_call 71;refine HC.out.mono ?_;rintro e w2 ⟨v,xs,rfl,h1,h2,h3,h4⟩));go_ret;have hlen:xs.length=m.length:=by rw[h1.length_eq];simp[keys]
 have hso:SrtI.sorted xs=SrtI.sorted (keys m):=mergeSort_of_perm_i h1;rw[hlen,hso]at h2;refine⟨v,rfl,?_,?_,HB.out.trans (h4.mono HB.out.size)⟩
 · obtain⟨g1,g2⟩:=h2
   refine⟨g1,g2.imp id ?_⟩;rintro⟨g,cap,cur,k1,k2,k3⟩;exact⟨g,cap,cur,k1,Nat.le_trans HB.out.size k2,k3⟩
 · rw[h3]
   constructor
   · intro hx
     subst hx;exact List.eq_nil_of_length_eq_zero hlen.symm
   · intro hx
     subst hx;exact List.eq_nil_of_length_eq_zero hlen
end IterS
end Go.Proofs.YthecngkdmnadoaaGreat

namespace Go.Proofs.YthecngkdmnadoaaGreat
open Go.RowKit
set_option maxRecDepth 100000
def pickN(p:Int)(m:Nat):Nat:=(max p 0).toNat%(m+1)
def cvOf(p:Int)(last:Option (List Nat))(fresh:List (List Nat)):Option (List Nat):=if pickN p fresh.length=0 then last else fresh[pickN p fresh.length-1]?
def crashSec(p:Int)(s:Sec):List Sec:=match cvOf p s.last s.fresh with|some v=>[⟨s.area,s.n,some v,[]⟩]|none=>[]
def crashS:List Int→List Sec→List Sec
 |_,[]=>[]
 |ps,s::r=>if s.fresh=[]then s::crashS ps r else crashSec (ps.headD 0) s++crashS ps.tail r
def crashGet:List Int→List Sec→Int→Int→Option (List Nat)
 |_,[],_,_=>none
 |ps,s::r,a,n=>if s.area=a∧s.n=n then (if s.fresh=[]then s.last else cvOf (ps.headD 0) s.last s.fresh)else crashGet (if s.fresh=[]then ps else ps.tail) r a n
theorem crashSec_mem{p:Int}{s t:Sec}(h:t∈crashSec p s):t.area=s.area∧t.n=s.n∧t.fresh=[]∧∃v,cvOf p s.last s.fresh=some v∧t.last=some v:=by
 unfold crashSec at h;cases hc:cvOf p s.last s.fresh with
 |none=>rw[hc]at h;cases h
 |some v=>rw[hc]at h;simp at h;subst h;exact⟨rfl,rfl,rfl,v,rfl,rfl⟩
theorem crashS_mem:∀{ps:List Int} {S:List Sec} {t:Sec},t∈crashS ps S→∃s∈S,t.area=s.area∧t.n=s.n∧((s.fresh=[]∧t=s)∨∃p v,s.fresh≠[]∧t.fresh=[]∧cvOf p s.last s.fresh=some v∧t.last=some v)
 |ps,s::r,t,h=>by
  rw[crashS]at h
  split at h
  · rename_i hf
    rcases List.mem_cons.1 h with rfl|h
    · exact⟨_,.head _,rfl,rfl,.inl ⟨hf,rfl⟩⟩
    · obtain⟨s',h1,h2⟩:=crashS_mem h
      exact⟨s',.tail _ h1,h2⟩
  · rename_i hf
    rcases List.mem_append.1 h with h|h
    · obtain⟨h1,h2,h3,v,h4,h5⟩:=crashSec_mem h
      exact⟨s,.head _,h1,h2,.inr ⟨_,v,hf,h3,h4,h5⟩⟩
    · obtain⟨s',h1,h2⟩:=crashS_mem h
      exact⟨s',.tail _ h1,h2⟩
theorem crashS_fresh{ps:List Int}{S:List Sec}{t:Sec}(h:t∈crashS ps S):t.fresh=[]:=by
 obtain⟨s,_,_,_,⟨h1,h2⟩|⟨_,_,_,h1,_⟩⟩:=crashS_mem h
 · rw[h2];exact h1
 · exact h1
theorem crashS_sorted:∀{ps:List Int} {S:List Sec},S.Pairwise Sec.before→(crashS ps S).Pairwise Sec.before
 |_,[],_=>by simp[crashS]
 |ps,s::r,h=>by
  obtain⟨h1,h2⟩:=List.pairwise_cons.1 h;have far:∀(t:Sec),t.area=s.area→t.n=s.n→∀ps',∀u∈crashS ps' r,t.before u:=fun t e1 e2 ps' u hu=>by
   obtain⟨s',hs',e3,e4,_⟩:=crashS_mem hu;have:=h1 s' hs';unfold Sec.before at this ⊢;rw[e1,e2,e3,e4];exact this
  rw[crashS]
  split
  · exact List.pairwise_cons.2 ⟨far s rfl rfl _,crashS_sorted h2⟩
  · rw[List.pairwise_append]
    refine⟨?_,crashS_sorted h2,fun t ht u hu=>?_⟩
    · unfold crashSec;split<;>simp
    · obtain⟨e1,e2,_⟩:=crashSec_mem ht
      exact far t e1 e2 _ u hu
theorem find_app_far{a n:Int}:∀{A B:List Sec},(∀s∈A,¬(s.area=a∧s.n=n))→findS a n (A++B)=findS a n B
 |[],_,_=>rfl
 |s::r,B,h=>by rw[List.cons_append,findS,if_neg (h s (.head _))];exact find_app_far fun t ht=>h t (.tail _ ht)
theorem find_crash:∀{ps:List Int} {S:List Sec},S.Pairwise Sec.before→∀a n,(findS a n (crashS ps S)).bind (·.last)=crashGet ps S a n
 |_,[],_,a,n=>rfl
 |ps,s::r,h,a,n=>by
  obtain⟨h1,h2⟩:=List.pairwise_cons.1 h;rw[crashS,crashGet];by_cases e:s.area=a∧s.n=n
  · rw[if_pos e]
    by_cases hf:s.fresh=[]
    · rw[if_pos hf,if_pos hf,findS,if_pos e];rfl
    · rw[if_neg hf,if_neg hf]
      unfold crashSec;cases hc:cvOf (ps.headD 0) s.last s.fresh with
      |some v=>rw[List.singleton_append,findS,if_pos e];rfl
      |none=>
       rw[List.nil_append,findS_none_of fun t ht hh=>?_]
       · rfl
       · obtain⟨s',hs',e3,e4,_⟩:=crashS_mem ht
         have:=h1 s' hs';unfold Sec.before at this;omega
  · rw[if_neg e]
    by_cases hf:s.fresh=[]
    · rw[if_pos hf,if_pos hf,findS,if_neg e]
      exact find_crash h2 a n
    · rw[if_neg hf,if_neg hf,find_app_far fun t ht hh=>?_]
      · exact find_crash h2 a n
      · obtain⟨e1,e2,_⟩:=crashSec_mem ht
        exact e ⟨e1▸hh.1,e2▸hh.2⟩
def cstep(fr:Int→Int→List (List Nat))(st:(Int→Int→Option (List Nat))×List Int)(k:Int×Int):(Int→Int→Option (List Nat))×List Int:=
 (fun a n=>if a=k.1∧n=k.2 then cvOf (st.2.headD 0) (st.1 a n) (fr a n)else st.1 a n,st.2.tail)
def freshK(S:List Sec):List (Int×Int):=(S.filter fun s=>s.fresh≠[]).map fun s=>(s.area,s.n)
theorem fold_get(fr:Int→Int→List (List Nat)):∀(S:List Sec),S.Pairwise Sec.before→(∀s∈S,fr s.area s.n=s.fresh)→∀(f:Int→Int→Option (List Nat)) (ps:List Int),(∀s∈S,f s.area s.n=s.last) →
 ∀a n,((freshK S).foldl (cstep fr) (f,ps)).1 a n=if (findS a n S).isSome then crashGet ps S a n else f a n
 |[],_,_,f,ps,_,a,n=>rfl
 |s::r,h,hfr,f,ps,hf,a,n=>by
  obtain⟨h1,h2⟩:=List.pairwise_cons.1 h;have key:∀s'∈r,¬(s'.area=s.area∧s'.n=s.n):=fun s' hs' hh=>by
   have:=h1 s' hs';unfold Sec.before at this;omega
  by_cases hs:s.fresh=[]
  · have e1:freshK (s::r)=freshK r:=by simp[freshK,hs]
    rw[e1,fold_get fr r h2 (fun t ht=>hfr t (.tail _ ht)) f ps (fun t ht=>hf t (.tail _ ht)) a n,crashGet,findS];by_cases e:s.area=a∧s.n=n
    · rw[if_pos e,if_pos e,if_pos hs]
      (have:findS a n r=none:=findS_none_of fun t ht hh=>key t ht ⟨hh.1.trans e.1.symm,hh.2.trans e.2.symm⟩);rw[this];simp only[Option.isSome_none,Bool.false_eq_true,if_false,Option.isSome_some,if_true];rw[←e.1,←e.2];exact hf s (.head _)
    · rw[if_neg e,if_neg e,if_pos hs]
  · have e1:freshK (s::r)=(s.area,s.n)::freshK r:=by simp[freshK,hs]
    rw[e1,List.foldl_cons];have hc:cstep fr (f,ps) (s.area,s.n)=((cstep fr (f,ps) (s.area,s.n)).1,ps.tail):=rfl;rw[hc,fold_get fr r h2 (fun t ht=>hfr t (.tail _ ht)) _ ps.tail (fun t ht=>?_) a n,crashGet,findS]
    · by_cases e:s.area=a∧s.n=n
      · rw[if_pos e,if_pos e,if_neg hs]
        (have:findS a n r=none:=findS_none_of fun t ht hh=>key t ht ⟨hh.1.trans e.1.symm,hh.2.trans e.2.symm⟩);rw[this];simp only[Option.isSome_none,Bool.false_eq_true,if_false,Option.isSome_some,if_true];show(if a=s.area∧n=s.n then cvOf (ps.headD 0) (f a n) (fr a n)else f a n)=_;rw[if_pos ⟨e.1.symm,e.2.symm⟩,←e.1,←e.2,hf s (.head _),hfr s (.head _)]
      · rw[if_neg e,if_neg e,if_neg hs]
        by_cases hi:(findS a n r).isSome=true
        · rw[if_pos hi,if_pos hi]
        · rw[if_neg hi,if_neg hi]
          show(if a=s.area∧n=s.n then cvOf (ps.headD 0) (f a n) (fr a n)else f a n)=_;rw[if_neg fun hh=>e ⟨hh.1.symm,hh.2.symm⟩]
    · show(if t.area=s.area∧t.n=s.n then _ else f t.area t.n)=_
      rw[if_neg (key t ht)];exact hf t (.tail _ ht)
theorem fold_picks(fr:Int→Int→List (List Nat))(K:List (Int×Int)):∀(f:Int→Int→Option (List Nat)) (ps:List Int),(K.foldl (cstep fr) (f,ps)).2=ps.drop K.length:=by
 induction K with
 |nil=>intro f ps;rfl
 |cons k r ih=>
  intro f ps;rw[List.foldl_cons];show(r.foldl (cstep fr) ((cstep fr (f,ps) k).1,ps.tail)).2=_;rw[ih,List.length_cons];cases ps<;>simp
def loopK(sh:Sh):List (Int×Int):=(SrtU.sorted (keys sh.F)).flatMap fun a=>(SrtI.sorted (keys (inF sh a))).map fun n=>(a,n)
def lexLt(x y:Int×Int):Prop:=x.1<y.1∨(x.1=y.1∧x.2<y.2)
theorem strict_sortedU{xs:List Int}(h:xs.Nodup):(SrtU.sorted xs).Pairwise (·<·):=by
 have h1:=sorted_le xs;have h2:(SrtU.sorted xs).Nodup:=(List.mergeSort_perm xs _).nodup_iff.2 h;exact(List.pairwise_and_iff.2 ⟨h1,h2⟩).imp fun {a b} h=>by omega
theorem loop_eq{w:World}{sh:Sh}{S:List Sec}(h:Held w sh)(hr:Rep sh S)(hI:∀a,(SrtI.sorted (keys (inF sh a))).Pairwise (·<·))(hIm:∀a n,n∈SrtI.sorted (keys (inF sh a))↔n∈keys (inF sh a)):loopK sh=freshK S:=by
 have p1:(loopK sh).Pairwise lexLt:=by
  unfold loopK;rw[List.pairwise_flatMap];refine⟨fun a _=>?_,(strict_sortedU h.hf.nodup).imp fun {a b} hab x hx y hy=>?_⟩
  · rw[List.pairwise_map]
    exact(hI a).imp fun {m n} hmn => .inr ⟨rfl,hmn⟩
  · obtain⟨m,_,rfl⟩:=List.mem_map.1 hx
    obtain⟨n,_,rfl⟩:=List.mem_map.1 hy;exact .inl hab
 have p2:(freshK S).Pairwise lexLt:=by
  unfold freshK;rw[List.pairwise_map];exact(hr.sorted.filter _).imp fun {s t} hst=>hst
 refine List.Perm.eq_of_pairwise (le:=lexLt) (fun a b _ _ h1 h2=>?_) p1 p2 ((List.perm_ext_iff_of_nodup (p1.imp fun {a b} hab e=>?_) (p2.imp fun {a b} hab e=>?_)).2 fun k=>?_)
 · unfold lexLt at h1 h2;omega
 · subst e;unfold lexLt at hab;omega
 · subst e;unfold lexLt at hab;omega
 · obtain⟨a,n⟩:=k
   have hfs:fget sh a n≠[]↔n∈keys (inF sh a):=by
    rw[fget_eq,fsGet_in];cases hm:mget n (inF sh a)with
    |none=>
     simp only[Option.map_none,Option.getD_none,ne_eq,not_true_eq_false,false_iff];exact mget_none.1 hm
    |some x=>
     have:=(inF_vs h hm).2.2.2.2;simp only[Option.map_some,Option.getD_some,ne_eq,this,not_false_eq_true,true_iff];exact List.mem_map.2 ⟨_,mem_keys_of_mget hm,rfl⟩
   constructor
   · intro hk
     obtain⟨a',_,hk⟩:=List.mem_flatMap.1 hk;obtain⟨n',hn',e⟩:=List.mem_map.1 hk;simp only[Prod.mk.injEq]at e;obtain⟨rfl,rfl⟩:=e;have h1:=hfs.2 ((hIm _ _).1 hn');rw[hr.fresh]at h1;cases hf:findS a' n' S with
     |none=>rw[hf]at h1;simp at h1
     |some s=>
      rw[hf]at h1;obtain⟨e1,e2⟩:=findS_at hf;refine List.mem_map.2 ⟨s,List.mem_filter.2 ⟨findS_mem hf,by simpa using h1⟩,by rw[e1,e2]⟩
   · intro hk
     obtain⟨s,hs,e⟩:=List.mem_map.1 hk;simp only[Prod.mk.injEq]at e;obtain⟨rfl,rfl⟩:=e;obtain⟨hs1,hs2⟩:=List.mem_filter.1 hs;have h1:fget sh s.area s.n≠[]:=by
      rw[hr.fresh,findS_self hr.sorted hs1];simpa using hs2
     have h2:=hfs.1 h1;refine List.mem_flatMap.2 ⟨s.area,?_,List.mem_map.2 ⟨s.n,(hIm _ _).2 h2,rfl⟩⟩;rw[mem_sorted,mem_keys];cases hm:mget s.area sh.F with
     |none=>simp[inF,hm,keys]at h2
     |some x=>rfl
end Go.Proofs.YthecngkdmnadoaaGreat

namespace Go.Proofs.YthecngkdmnadoaaGreat
open Go.RowKit
set_option maxRecDepth 100000
theorem cv_ver(p:Int)(s:Sec):cvOf p s.last s.fresh=s.last∨∃v∈s.fresh,cvOf p s.last s.fresh=some v:=by
 unfold cvOf
 split
 · exact .inl rfl
 · rename_i h0
   have hlt:pickN p s.fresh.length-1<s.fresh.length:=by
    have:pickN p s.fresh.length<s.fresh.length+1:=Nat.mod_lt _ (Nat.succ_pos _);omega
   exact .inr ⟨_,List.getElem_mem hlt,List.getElem?_eq_getElem hlt⟩
theorem get_ver(a n:Int):∀(ps:List Int) (S:List Sec),Ver S a n (crashGet ps S a n)
 |ps,[]=>by unfold crashGet;exact(ver_none rfl).2 rfl
 |ps,s::r=>by
  rw[crashGet];by_cases e:s.area=a∧s.n=n
  · rw[if_pos e]
    (have hf:findS a n (s::r)=some s:=by rw[findS,if_pos e]);rw[ver_some hf]
    split
    · exact .inl rfl
    · exact cv_ver _ s
  · rw[if_neg e]
    (have hf:findS a n (s::r)=findS a n r:=by rw[findS,if_neg e]);have ih:=get_ver a n (if s.fresh=[]then ps else ps.tail) r;unfold Ver at ih ⊢;rw[hf];exact ih
theorem cur_fresh{s:Sec}(h:s.fresh=[]):s.cur=s.last:=by unfold Sec.cur;rw[h];rfl
theorem cur_crash{ps:List Int}{S:List Sec}(hs:S.Pairwise Sec.before)(a n:Int):curOf (crashS ps S) a n=crashGet ps S a n:=by
 rw[←find_crash hs];unfold curOf;cases hf:findS a n (crashS ps S)with
 |none=>rfl
 |some s=>exact cur_fresh (crashS_fresh (findS_mem hf))
theorem view_crash(ps:List Int){S:List Sec}(hs:S.Pairwise Sec.before):View S (crashS ps S):=fun a n=>by rw[cur_crash hs];exact get_ver a n ps S
theorem ok_crash(ps:List Int){S:List Sec}(h:SOk S):SOk (crashS ps S):=by
 refine⟨crashS_sorted h.sorted,fun t ht=>?_,fun t ht=>?_,fun t ht=>?_,fun a n v hv=>?_⟩
 · obtain⟨s,hs,e1,e2,_⟩:=crashS_mem ht
   rw[e1];exact h.area s hs
 · obtain⟨s,hs,e1,e2,_⟩:=crashS_mem ht
   rw[e2];exact h.num s hs
 · rw[cur_fresh (crashS_fresh ht)]
   obtain⟨s,hs,e1,e2,⟨e3,e4⟩|⟨p,v,e3,e4,e5,e6⟩⟩:=crashS_mem ht
   · have:=h.there s hs
     rw[cur_fresh e3]at this;rw[e4];exact this
   · rw[e6];simp
 · have hv2:some v=curOf (crashS ps S) a n:=by
    unfold curOf;cases hf:findS a n (crashS ps S)with
    |none=>exact(ver_none hf).1 hv
    |some s=>
     have hfr:=crashS_fresh (findS_mem hf);rw[ver_some hf]at hv;rcases hv with e|⟨u,hu,_⟩
     · rw[e];exact(cur_fresh hfr).symm
     · rw[hfr]at hu;cases hu
   refine h.bytes a n v ?_;rw[hv2];exact view_crash ps h.sorted a n
theorem len_crash:∀(ps:List Int) (S:List Sec),(crashS ps S).length≤S.length
 |ps,[]=>by rw[crashS];exact Nat.le_refl _
 |ps,s::r=>by
  rw[crashS]
  split
  · have:=len_crash ps r
    simp only[List.length_cons];omega
  · have:=len_crash ps.tail r
    (have h2:(crashSec (ps.headD 0) s).length≤1:=by unfold crashSec;split<;>simp);rw[List.length_append,List.length_cons];omega
theorem CutD.crash{f0 k:Nat}{M:List SR}{d:DS}(h:CutD f0 k M d)(hf:f0≤k)(hk:k≤2000000)(ps:List Int):
 Rdy f0 k ⟨d.room,0,0,false,false,crashS ps d.secs⟩∧∃r∈M,FitsO f0 (fo none (segsOf (crashS ps d.secs) (numsN ⟨d.room,0,0,false,false,crashS ps d.secs⟩))) r:=by
 obtain⟨segs,cu,hs,_⟩:=h.si;exact h.found (t:=⟨d.room,0,0,false,false,crashS ps d.secs⟩) hf hk (ok_crash ps hs.ok) (view_crash ps hs.ok.sorted) rfl rfl rfl (len_crash ps d.secs)
theorem CutP.again{f0 k:Nat}{at_:Int}{g:LG}{M:List SR}(h:CutP f0 k at_ g M)(hf:f0≤k)(hk:k≤2000000)(hu:Un g.d):Rdy f0 k g.d∧∃r∈M,FitsO f0 (fo none (segsOf g.d.secs (numsN g.d))) r:=by
 have hd:=h.disk;obtain⟨segs,cu,hs,_⟩:=hd.si;exact hd.found (t:=g.d) hf hk hs.ok (View.self _) hu.1 hu.2 rfl (Nat.le_refl _)
def OpAt(N p:Nat)(g:LG)(fp:List Nat)(w:World)(e:Ending)(w':World):Prop:=∃b v fp' s,e = .returned (.tuple #[.pointer (some ⟨b,0,none⟩),.int .i64 0])∧LogAt N w' b g v fp' s∧v.p=p∧Only fp w w'∧∀k∈logF b v fp',k∈fp∨w.heap.size≤k
theorem Rdy.at{f0 k:Nat}{d:DS}(h:Rdy f0 k d){N p:Nat}{fp:List Nat}{w:World}{g:LG}(hd:DiskAt N w p d fp)(hN:N<130000000000)(hg:openG d 0 f0=(0,g)):
 Calls Tryz.prog 12 #[.pointer (some ⟨p,0,none⟩),.int .u64 ((0:Nat):Int),.int .u64 (f0:Int)] w (OpAt (N+k) p g fp w):=by
 have hk:=h.k;have hf0:=h.f0;have hl:=h.len;obtain⟨hm,hasc⟩:=nums_mem h.ok.sorted (fun s hs=>(h.ok.area s hs).1);obtain⟨ham,_⟩:=areas_mem h.ok.sorted;have hnl:(numsN d).length≤k:=by
  have:=asc_len (numsN d) 0 k hasc (fun n hn=>⟨Nat.zero_le _,h.nums n hn⟩);omega
 have hts:=(tsum_bound h.ok.sorted (fun s hs=>(h.ok.area s hs).1)).1;refine(Open_any N p 0 f0 d fp w hd hN (by omega) (by omega) (fun a ha=>?_) (fun _ x hx=>?_) (by omega) (by omega) (fun a i u hu=>?_)).mono ?_
 · obtain⟨s,hs,rfl⟩:=(ham a).1 ha
   exact h.ok.area s hs
 · have:=h.nums x hx
   omega
 · exact h.ok.bytes a i u (by rw[←hu];exact ver_cur _ _ _)
 · rintro e w' (⟨h1,_⟩|⟨_,b,v,fp',s,rfl,h2,h3,h4,h5,h6⟩)
   · rw[hg]at h1;exact absurd rfl h1
   · rw[hg]at h2
     exact⟨b,v,fp',s,rfl,h2.more (by omega),h3,h5,h6⟩
theorem OpAt.since{W0:World}{N p b:Nat}{g:LG}{fp fp':List Nat}{v:WV}{s:List Sv}{w w':World}(hl:LogAt N w' b g v fp' s)(hp:v.p=p)(ho:Only fp w w')(hk:∀k∈logF b v fp',k∈fp∨w.heap.size≤k)(hb:Below W0.heap.size W0 w)(hf:∀k∈fp,W0.heap.size≤k):Since W0 N w' b p g v fp' s:=by
 refine⟨hl,fun k h=>?_,hb.trans (ho.below hb.size hf),hp⟩;rcases hk k h with h7|h7
 · exact hf k h7
 · exact Nat.le_trans hb.size h7
end Go.Proofs.YthecngkdmnadoaaGreat

namespace Go.Proofs.YthecngkdmnadoaaGreat
open Go.RowKit Go.Shelf
set_option maxRecDepth 100000
shelf_lay_g SlLaysW.n5 Slmc 5 at Tryz 68 as cloneL
theorem Clone_any{f:List Nat→Value}{m:List (Int×List Nat)}(b:Nat)(w:World)(h:MapAt .i64 f w b m):
 Calls Tryz.prog 68 #[.map (some b)] w fun e w'=>e = .returned (.map (some w.heap.size))∧MapAt .i64 f w' w.heap.size m∧w'.heap.size=w.heap.size+1∧Below w.heap.size w w':=by
 obtain⟨es,clock,hb,hr⟩:=h;have hc:Calls Tryz.prog 68 #[.map (some b)] w fun e w'=>e = .returned (.map (some w.heap.size))∧w'=w.alloc (.map es clock):=AnyW.maps_Clone cloneL b es clock w hb
 refine hc.mono ?_;rintro e w' ⟨rfl,rfl⟩;exact⟨rfl,⟨es,clock,(MapKept.heap_alloc w _).1,hr⟩,by simp,(Below.refl _ w).alloc (Nat.le_refl _) _⟩
structure CopyInv(w:World)(lb mb r:Nat)(L:List (Int×Nat×List (Int×List Nat)))(wr:World)(done:List (Int×Nat×List (Int×List Nat)))(M:List (Int×Nat×List (Int×List Nat))):Prop where
 rng:Ranges .u64 inV wr (some lb) r L done
 two:Two verV wr mb M
 eq:M.map (fun p=>(p.1,p.2.2))=done.map (fun p=>(p.1,p.2.2))
 new:∀p∈M,w.heap.size≤p.2.1∧p.2.1≠r
 below:Below w.heap.size w wr
theorem mput_new{α:Type}{k:Int}{v:α}:∀{m:List (Int×α)},k∉keys m→mput k v m=m++[(k,v)]
 |[],_=>rfl
 |p::t,h=>by
  have h1:p.1≠k:=fun e=>h (e ▸ .head _)
  rw[mput,if_neg h1,mput_new fun hm=>h (.tail _ hm)];rfl
theorem keys_eq{α β:Type}{M:List (Int×Nat×α)}{D:List (Int×Nat×β)}{g:α→β}(h:M.map (fun p=>(p.1,g p.2.2))=D.map (fun p=>(p.1,p.2.2))):keys M=keys D:=by
 have:=congrArg (List.map Prod.fst) h;rw[List.map_map,List.map_map]at this;exact this
theorem mget_map{α β:Type}(g:α→β)(a:Int):∀(M:List (Int×α)),(mget a M).map g=mget a (M.map fun p=>(p.1,g p.2))
 |[]=>rfl
 |p::r=>by
  rw[mget,List.map_cons,mget];by_cases e:p.1=a
  · rw[if_pos e,if_pos e];rfl
  · rw[if_neg e,if_neg e];exact mget_map g a r
theorem mget_same{α:Type}{A B:List (Int×α)}(hA:(keys A).Nodup)(hB:(keys B).Nodup)(h:∀p,p∈A↔p∈B)(a:Int):mget a A=mget a B:=by
 cases hm:mget a A with
 |some v=>exact(mget_of_mem hB ((h _).1 (mem_keys_of_mget hm))).symm
 |none=>
  cases hm':mget a B with
  |none=>rfl
  |some v=>rw[mget_of_mem hA ((h _).2 (mem_keys_of_mget hm'))]at hm;cases hm
theorem CopyInv.next{w:World}{lb mb r:Nat}{L done M:List (Int×Nat×List (Int×List Nat))}{wr w' w6 w7:World}{k:Int}{x:Nat×List (Int×List Nat)}(h:CopyInv w lb mb r L wr done M)(hlb:lb<w.heap.size)(hmb:w.heap.size≤mb)(hrw:w.heap.size≤r)(hrm:r≠mb)(hk:k∉keys done)
 (hr2:Ranges .u64 inV w' (some lb) r L (done++[(k,x)])) (ho:OneD r wr w') (hc:MapAt .i64 verV w6 w'.heap.size x.2) (hb6:Below w'.heap.size w' w6) (hu:MapAt .u64 inV w7 mb (mput k (w'.heap.size,x.2) M)) (ho7:One mb w6 w7):
 ∃done' M',CopyInv w lb mb r L w7 done' M':=by
 have hkM:k∉keys M:=by rw[keys_eq (g:=id) (by simpa using h.eq)];exact hk
 have hmlt:=h.two.1.lt;have hrl:r<w'.heap.size:=hr2.lt;have hsz:=ho.size;have hbw:=h.below.size;have far:∀b,b<wr.heap.size→b≠r→b≠mb→w7.heap[b]?=wr.heap[b]?:=fun b hb h1 h2=>(ho7.block b h2).trans ((hb6.block b (by omega)).trans (ho.block b h1))
 have hlt:∀p∈M,p.2.1<wr.heap.size:=fun p hp=>(h.two.2.1 p hp).lt
 refine⟨done++[(k,x)],M++[(k,w'.heap.size,x.2)],?_,⟨?_,?_,?_⟩,?_,?_,?_⟩
 · refine hr2.same ((ho7.block r hrm).trans (hb6.block r hrl)) fun b hb=>?_
   cases hb;exact(ho7.block lb (by omega)).trans (hb6.block lb (by omega))
 · rw[←mput_new hkM];exact hu
 · intro p hp
   rcases List.mem_append.1 hp with hp|hp
   · exact(h.two.2.1 p hp).same (far _ (hlt p hp) (h.new p hp).2 (inner_ne h.two.2.2 hp))
   · rw[List.mem_singleton.1 hp]
     exact hc.same (ho7.block _ (by show w'.heap.size≠mb;omega))
 · rw[List.map_append]
   have hn:=h.two.2.2;rw[←List.cons_append,List.nodup_append];refine⟨hn,by simp,fun a ha b hb e=>?_⟩;simp only[List.map_cons,List.map_nil,List.mem_singleton]at hb;subst hb;rcases List.mem_cons.1 ha with ha|ha
   · omega
   · obtain⟨p,hp,rfl⟩:=List.mem_map.1 ha
     have:=hlt p hp;omega
 · rw[List.map_append,List.map_append,h.eq];rfl
 · intro p hp
   rcases List.mem_append.1 hp with hp|hp
   · exact h.new p hp
   · rw[List.mem_singleton.1 hp]
     exact⟨by show w.heap.size≤w'.heap.size;omega,by show w'.heap.size≠r;omega⟩
 · have e1:Below w.heap.size wr w':=⟨ho.os,ho.tape,ho.output,Nat.le_of_eq ho.size.symm,fun b hb=>ho.block b (by omega)⟩
   have e2:Below w.heap.size w6 w7:=⟨ho7.os,ho7.tape,ho7.output,Nat.le_of_eq ho7.size.symm,fun b hb=>ho7.block b (by omega)⟩;exact((h.below.trans e1).trans (hb6.mono (by omega))).trans e2
set_option maxHeartbeats 1000000 in
theorem copyLasting_any(lb:Nat)(L:List (Int×Nat×List (Int×List Nat)))(w:World)(h:MapAt .u64 inV w lb L)(hi:∀p∈L,MapAt .i64 verV w p.2.1 p.2.2):
 Calls Tryz.prog 43 #[.map (some lb)] w fun e w'=>∃mb M,e = .returned (.map (some mb))∧Two verV w' mb M∧(∀a,(mget a M).map (·.2)=(mget a L).map (·.2))∧w.heap.size≤mb∧(∀p∈M,w.heap.size≤p.2.1)∧Below w.heap.size w w':=by
 have HH:Hid (MapAt .u64 inV w lb L):=h;have HI:Hid (∀p∈L,MapAt .i64 verV w p.2.1 p.2.2):=hi;have hlb:=h.lt;have hmm:=@run_makeMap Tryz.prog;have HR:Hid (∃ob,(Instr.range 70 (.map (some lb))).run Tryz.prog (w.alloc (.map #[] 0)) = .ok (.pointer (some ⟨(w.alloc (.map #[] 0)).heap.size,0,none⟩)) ((w.alloc (.map #[] 0)).alloc ob)∧Ranges .u64 inV ((w.alloc (.map #[] 0)).alloc ob) (some lb) (w.alloc (.map #[] 0)).heap.size L []):=(h.same (alloc_old w _ hlb)).range Tryz.underlying70;clear h hi;go_enter Tryz.func43,Tryz.ntmps43;go_wp2_with (at_range;refine wpList_range_at HR.out rfl _ rfl rfl ?_);intro ob hrg;have hB2:Below w.heap.size w ((w.alloc (.map #[] 0)).alloc ob):=((Below.refl _ w).alloc (Nat.le_refl _) _).alloc (by simp) _;have hT:Two verV ((w.alloc (.map #[] 0)).alloc ob) w.heap.size []:=⟨(MapAt.new .u64 inV w).same (alloc_old _ _ (by simp)),fun p hp=>(by cases hp),by simp⟩;have H0:Hid (CopyInv w lb w.heap.size (w.heap.size+1) L ((w.alloc (.map #[] 0)).alloc ob) [] []):=⟨by simpa using hrg,hT,rfl,fun p hp=>(by cases hp),hB2⟩;clear hrg hB2 hT;go_wp2_with fail
 go_loopw [] (fun wr=>∃done M,CopyInv w lb w.heap.size (w.heap.size+1) L wr done M) (fun wr=>L.length-seenAt wr (w.heap.size+1))
 case atStart=>exact⟨[],[],H0.out⟩
 case round=>
  obtain⟨done,M,hI⟩:=hrel;have HIV:Hid (CopyInv w lb w.heap.size (w.heap.size+1) L wr done M):=hI;clear hI;go_wp2_with (at_next;refine wpList_next_at HIV.out.rng rfl _ rfl rfl ?_ ?_)
  · intro hall
    have HALL:Hid (AllIn L done):=hall;clear hall;go_wp2_with fail;go_ret;have h:=HIV.out;obtain⟨_,_,hdn,hdm⟩:=h.rng.seen;refine⟨_,M,rfl,h.two,fun a=>?_,Nat.le_refl _,fun p hp=>(h.new p hp).1,h.below⟩;have e1:mget a done=mget a L:=mget_same hdn HH.out.nodup (fun p=>⟨hdm p,HALL.out p⟩) a;rw[←e1,mget_map,mget_map];exact congrArg _ h.eq
  · intro k xb xm w' hm hk hr2 ho hen
    have hmx:=HI.out _ hm;have hbw:Below w.heap.size w w':=HIV.out.below.trans ⟨ho.os,ho.tape,ho.output,Nat.le_of_eq ho.size.symm,fun b hb=>ho.block b (by omega)⟩;have HMX:Hid (MapAt .i64 verV w' xb xm):=hmx.same (hbw.block xb hmx.lt);have HR2:Hid (Ranges .u64 inV w' (some lb) (w.heap.size+1) L (done++[(k,xb,xm)])):=hr2;have HO:Hid (OneD (w.heap.size+1) wr w'):=ho;have HKK:Hid (k∉keys done):=hk;have hen':(Instr.entry (.pointer (some ⟨w.heap.size+1,0,none⟩))).run Tryz.prog w' = .ok (.tuple #[.int .u64 k,.map (some xb)]) w':=hen;have hsn0:=HIV.out.rng.seen;have hsn:=hr2.seen;(try rw[show inV (xb,xm) = .map (some xb)from rfl]);clear hen hmx hbw hr2 ho hk hm;go_wp2_with fail;refine(Clone_any xb w' HMX.out).mono ?_;rintro e w6 ⟨rfl,hc6,hs6,hb6⟩;have hM6:MapAt .u64 inV w6 w.heap.size M:=HIV.out.two.1.same ((hb6.block _ (by have:=HIV.out.two.1.lt;have:=HO.out.size;omega)).trans (HO.out.block _ (by omega)));have HM6:Hid (MapAt .u64 inV w6 w.heap.size M):=hM6;have HC6:Hid (MapAt .i64 verV w6 w'.heap.size xm∧Below w'.heap.size w' w6):=⟨hc6,hb6⟩;clear hc6 hb6 hM6;go_wp2_with (at_mapUpdate;refine wpList_update HM6.out rfl _ _ _ _ _ _ rfl Tryz.underlying70 Tryz.underlying22 k (w'.heap.size,xm) rfl rfl rfl ?_);intro w7 hu7 ho7;have HN:Hid (∃done' M',CopyInv w lb w.heap.size (w.heap.size+1) L w7 done' M'):=HIV.out.next (x:=(xb,xm)) hlb (Nat.le_refl _) (by omega) (by omega) HKK.out HR2.out HO.out HC6.out.1 HC6.out.2 hu7 ho7
    have hseen:seenAt w7 (w.heap.size+1)=seenAt w' (w.heap.size+1):=by
     unfold seenAt;rw[ho7.block _ (by omega),HC6.out.2.block _ HR2.out.lt]
    clear hu7 ho7;go_wp2_with fail
    go_roundw
    case rel=>exact HN.out
    case measure=>
     rw[hseen,hsn.1,hsn0.1];have:=hsn.2.1;rw[List.length_append,List.length_singleton]at this ⊢;omega
end Go.Proofs.YthecngkdmnadoaaGreat
