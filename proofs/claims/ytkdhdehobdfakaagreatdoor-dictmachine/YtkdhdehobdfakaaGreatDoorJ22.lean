import Derived.Test.YtkdhdehobdfakaaGreatDoorJ21
set_option maxRecDepth 100000
set_option maxHeartbeats 8000000
namespace Go.Proofs.YtkdhdehobdfakaaGreatDoor
namespace Fm
open Go.Proofs.YtkdhdehobdfakaaGreatDoor.Nums
def refA(st:List (List En)→List St→List En→List (List En)×List St×Nat):List (List En)→List St→List (Int×List En)→List (List En)×List St×List Arc
 |D,b,[]=>(D,b,[])
 |D,b,(c,G)::r=>((refA st (st D b G).1 (st D b G).2.1 r).1,(refA st (st D b G).1 (st D b G).2.1 r).2.1,⟨c,least G,(st D b G).2.2⟩::(refA st (st D b G).1 (st D b G).2.1 r).2.2)
def refF:Nat→List (List En)→List St→List En→List (List En)×List St×Nat
 |0,D,b,_=>(D,b,0)
 |f+1,D,b,S=>if zAd S∈D then (D,b,D.idxOf (zAd S))else
  ((refA (refF f) D b (grp (zAj (zAd S)))).1++[zAd S],(refA (refF f) D b (grp (zAj (zAd S)))).2.1++[⟨zCw S,zCi (zAd S),(refA (refF f) D b (grp (zAj (zAd S)))).2.2⟩],(refA (refF f) D b (grp (zAj (zAd S)))).2.1.length)
theorem zLk{D D2:List (List En)}{b:List St}(h:Inv D b)(h2:Inv D2 b):D=D2:=by
 have key:∀n i:Nat,i<n→D[i]?=D2[i]?:=by
  intro n
  induction n with
  |zero=>intro i hi;omega
  |succ n ih=>
   intro i hi;by_cases hib:i<b.length
   · obtain⟨s,hs⟩:∃s,b[i]?=some s:=⟨b[i],List.getElem?_eq_getElem hib⟩
     obtain⟨e1,t1,_⟩:=h.row i s hs;obtain⟨e2,_,_⟩:=h2.row i s hs;rw[e1,e2];unfold exp outs
     have:(s.arcs.map fun a=>(a.label,zAi a.out (D[a.to]?.getD [])))=s.arcs.map fun a=>(a.label,zAi a.out (D2[a.to]?.getD [])):=
      List.map_congr_left fun a ha=>by rw[ih a.to (by have:=t1 a ha;omega)]
     rw[this]
   · rw[List.getElem?_eq_none (by have:=h.len;omega),List.getElem?_eq_none (by have:=h2.len;omega)]
 exact List.ext_getElem? fun i=>key (i+1) i (Nat.lt_succ_self i)
theorem inv_push{D:List (List En)}{b:List St}{s:St}{L:List En}(h:Inv D b)(hcan:Canon D s)(hexp:exp D s=L)(hn:L∉D)(hL:L≠[]∧least L=0):Inv (D++[L]) (b++[s]):=by
 have hlen:=h.len;have hpre:D<+:D++[L]:=List.prefix_append _ _;refine⟨by simp[hlen],fun i t hi=>?_,?_,fun R hR=>?_⟩
 · by_cases hib:i<b.length
   · rw[List.getElem?_append_left hib]at hi
     obtain⟨e1,e2,ct⟩:=h.row i t hi;refine⟨?_,e2,ct.pre hpre⟩;rw[zK4 hpre (by omega),e1,zIl hpre ct.to]
   · rw[List.getElem?_append_right (by omega)]at hi
     cases hi0:i-b.length with
     |zero=>
      rw[hi0]at hi;simp only[List.getElem?_cons_zero,Option.some.injEq]at hi;subst hi;refine⟨?_,fun a ha=>by have:=hcan.to a ha;omega,hcan.pre hpre⟩;rw[zIl hpre hcan.to,hexp,List.getElem?_append_right (by omega),hlen,hi0];rfl
     |succ j=>rw[hi0]at hi;simp at hi
 · rw[List.nodup_append]
   exact⟨h.nd,by simp,fun a ha c hc=>by rw[List.mem_singleton.1 hc];exact fun e=>hn (e▸ha)⟩
 · rcases List.mem_append.1 hR with h1|h1
   · exact h.lv R h1
   · rw[List.mem_singleton.1 h1];exact hL
theorem zEg{S:List En}{e:En}(h:e∈zAj S):e∈S:=by
 cases S with
 |nil=>exact h
 |cons y r=>
  obtain⟨a,n⟩:=y;cases a with
  |nil=>exact .tail _ h
  |cons c t=>exact h
theorem zXc:∀(m:Nat) (l:List En),l.length≤m→∀p∈grp l,∀e∈p.2,∃x∈l,e=tl x
 |_,[],_,_,hp,_,_=>by cases hp
 |0,y::r,h,_,_,_,_=>by simp at h
 |m+1,y::r,hl,p,hp,e,he=>by
  rw[zC1]at hp;rcases List.mem_cons.1 hp with rfl|hp
  · obtain⟨x,hx,rfl⟩:=List.mem_map.1 he
    exact⟨x,List.mem_of_mem_take hx,rfl⟩
  · obtain⟨x,hx,h2⟩:=zXc m ((y::r).drop (lead (hd y) r+1)) (by rw[List.length_drop];simp at hl ⊢;omega) p hp e he
    exact⟨x,List.mem_of_mem_drop hx,h2⟩
theorem zUp{T R:List En}(hs:Sub T R){k:Nat}:(∀e∈T,e.1.length≤k)→∀e∈R,e.1.length≤k:=by
 induction hs with
 |here T=>
  intro h e he;obtain⟨x,hx,rfl⟩:=List.mem_map.1 he;exact h x hx
 |@step T' R' p hp hsub ih=>
  intro h;refine ih fun e he=>?_
  obtain⟨x,hx,rfl⟩:=zXc _ _ (Nat.le_refl _) p hp e he;have:=h x (zEg hx);simp only[tl,List.length_tail];omega
theorem zWa:∀T:List En,T≠[]→∃e∈T,∀x∈T,x.1.length≤e.1.length
 |[],h=>absurd rfl h
 |y::r,_=>by
  by_cases hr:r=[]
  · subst hr;exact⟨y,by simp,fun x hx=>by rw[List.mem_singleton]at hx;subst hx;exact Nat.le_refl _⟩
  · obtain⟨e,he,h⟩:=zWa r hr
    by_cases hl:e.1.length≤y.1.length
    · exact⟨y,by simp,fun x hx=>by
       rcases List.mem_cons.1 hx with rfl|hx
       · exact Nat.le_refl _
       · exact Nat.le_trans (h x hx) hl⟩
    · exact⟨e,by simp[he],fun x hx=>by
       rcases List.mem_cons.1 hx with rfl|hx
       · omega
       · exact h x hx⟩
theorem not_own{S:List En}(h0:S≠[])(hr:Rise S){p:Int×List En}(hp:p∈grp (zAj S)):¬Sub p.2 (zAd S):=fun h=>by
 obtain⟨_,hr2⟩:=zBi hr;obtain⟨e,he,hmax⟩:=zWa S h0;obtain⟨g0,hg0⟩:∃g0,g0∈p.2:=List.exists_mem_of_ne_nil _ (zJ1 _ _ (Nat.le_refl _) p hp);have hpos:0<e.1.length:=by
  have:=hmax _ (zEg (zFd hr2 hp hg0));simp only[pre,List.length_cons]at this;omega
 have hk:=zUp h (k:=e.1.length-1) (fun x hx=>by
  have:=hmax _ (zEg (zFd hr2 hp hx));simp only[pre,List.length_cons]at this;omega) (e.1,e.2 + -least S) (List.mem_map.2 ⟨e,he,rfl⟩)
 simp only at hk;omega
theorem zO5(n:Int){S:List En}(h:S≠[]):zCi (zAi n S)=zCi S:=by
 cases S with
 |nil=>exact absurd rfl h
 |cons e r=>
  have hs:=zB4 n h;obtain⟨x,m⟩:=e;cases x with
  |nil=>
   show m+n-least (zAi n (([],m)::r))=m-least (([],m)::r);omega
  |cons c t=>rfl
theorem zSy(f:Nat)(D:List (List En))(b:List St)(n:Int){S:List En}(h:S≠[]):refF f D b (zAi n S)=refF f D b S:=by
 cases f with
 |zero=>rfl
 |succ f=>rw[refF,refF,zFa n h,zIj]
theorem zU9{f:Nat}{base:Int}(ih:∀(D:List (List En)) (b:List St) (S:List En),Inv D b→Good f S→(refF f D b S).2=stF f b S∧Inv (refF f D b S).1 (stF f b S).1):
 ∀(gs:List (Int×List En)) (D:List (List En)) (b:List St),Inv D b→(∀p∈gs,Good f p.2)→(refA (refF f) D b (gs.map fun p=>(p.1,zAi (-base) p.2))).2=arF (stF f) base b gs∧Inv (refA (refF f) D b (gs.map fun p=>(p.1,zAi (-base) p.2))).1 (arF (stF f) base b gs).1
 |[],D,b,hI,_=>⟨rfl,hI⟩
 |(c,G)::r,D,b,hI,hG=>by
  have hGG:=hG (c,G) (by simp);obtain⟨e1,i1⟩:=ih D b G hI hGG;obtain⟨e2,i2⟩:=zU9 ih r (refF f D b G).1 (stF f b G).1 i1 (fun p hp=>hG p (by simp[hp]));have hne:G≠[]:=hGG.1;have hl:least (zAi (-base) G)=least G-base:=by rw[zB4 _ hne];omega
  simp only[List.map_cons,refA,arF,zSy f D b (-base) hne,e1,hl];refine⟨?_,i2⟩;rw[←e2]
theorem zMx:∀(f:Nat) (D:List (List En)) (b:List St) (S:List En),Inv D b→Good f S→(refF f D b S).2=stF f b S∧Inv (refF f D b S).1 (stF f b S).1
 |0,_,_,S,_,h=>by
  obtain⟨h0,_,h2⟩:=h;cases S with
  |nil=>exact absurd rfl h0
  |cons e r=>exact absurd (h2 e (by simp)) (by omega)
 |f+1,D,b,S,hI,hG=>by
  by_cases hm:zAd S∈D
  · obtain⟨D',M⟩:=zCf (f+1) D b S hI hG
    obtain⟨e1,e2⟩:=M.old (D.idxOf (zAd S)) (by rw[List.getElem?_eq_getElem (List.idxOf_lt_length_of_mem hm),List.getElem_idxOf]);rw[e1,refF,if_pos hm];exact⟨rfl,hI⟩
  · obtain⟨hr1,hr2⟩:=zBi hG.2.1
    have hgg:=zCu hG;have hfl:=zEv _ (zAj S) (Nat.le_refl _) hr2;have hlab:=(zEt _ (zAj S) (Nat.le_refl _) hr2 hr1).1;obtain⟨D1,M⟩:=zHr (base:=least S) (zCf f) (grp (zAj S)) D b hI hgg;obtain⟨e1,i1⟩:=zU9 (base:=least S) (zMx f) (grp (zAj S)) D b hI hgg;(have hgr:grp (zAj (zAd S))=(grp (zAj S)).map fun p=>(p.1,zAi (-least S) p.2):=by rw[zAd,zD4,zIe]);have ho:zCi (zAd S)=zCi S:=zO5 _ hG.1;rw[refF,if_neg hm,stF,hgr,ho];rw[zLk i1 M.inv,e1];generalize arF (stF f) (least S) b (grp (zAj S))=q at M;obtain⟨b1,arcs⟩:=q;simp only at M ⊢;have hcan:Canon D1 ⟨zCw S,zCi S,arcs⟩:=by
     refine⟨zH3 M.outs hlab,M.to,fun h=>?_⟩;cases S with
     |nil=>rfl
     |cons e r=>
      obtain⟨x,n⟩:=e;cases x with
      |nil=>cases h
      |cons c t=>rfl
    have hexp:exp D1 ⟨zCw S,zCi S,arcs⟩=zAd S:=by
     rw[exp,zAd,zGw S arcs,M.outs,←zGv,hfl]
    have hn1:zAd S∉D1:=fun h=>by
     rcases M.sub _ h with h|⟨p,hp,h⟩
     · exact hm h
     · exact not_own hG.1 hG.2.1 hp h
    have hnot:(⟨zCw S,zCi S,arcs⟩:St)∉b1:=fun h=>by
     obtain⟨j,hj⟩:=List.mem_iff_getElem?.1 h;have h1:=(M.inv.row j _ hj).1;rw[hexp]at h1;exact hn1 (List.mem_of_getElem? h1)
    rw[zDg,if_neg hnot];exact⟨rfl,inv_push M.inv hcan hexp hn1 ⟨zHh.2 hG.1,zFb hG.1⟩⟩
end Fm
section
open Go.RowKit Nums Fm
namespace Fm
def zB5(acc:List Int)(e:En):List Int:=match e.1 with
 |[]=>acc
 |c::_=>if acc.getLast?=some c then acc else acc++[c]
def fsts(l:List En):List Int:=l.foldl zB5 []
theorem zXf{l:List En}{k:Nat}{e:En}(h:l[k]?=some e):fsts (l.take (k+1))=zB5 (fsts (l.take k)) e:=by
 rw[List.take_add_one,h];show fsts (l.take k++[e])=_;unfold fsts;rw[List.foldl_append];rfl
theorem zPe(acc:List Int)(e:En):(zB5 acc e).length≤acc.length+1:=by
 unfold zB5
 split
 · omega
 · split<;>simp
theorem zRq:∀(l:List En) (acc:List Int),(l.foldl zB5 acc).length≤acc.length+l.length
 |[],_=>Nat.le_refl _
 |e::r,acc=>by
  have h1:=zRq r (zB5 acc e);have h2:=zPe acc e;simp only[List.foldl_cons,List.length_cons];omega
theorem zHm(l:List En):(fsts l).length≤l.length:=by have:=zRq l [];simpa[fsts]using this
def zIg(acc cs:List Int):List Int:=match cs with
 |[]=>[]
 |c::r=>if acc.getLast?=some c then r else c::r
theorem zXg:∀(l:List En) (acc:List Int),(∀e∈l,e.1≠[])→l.foldl zB5 acc=acc++zIg acc ((grp l).map (·.1))
 |[],acc,_=>by simp[grp,zIg]
 |e::r,acc,h=>by
  obtain⟨x,n⟩:=e;cases x with
  |nil=>exact absurd rfl (h ([],n) (by simp))
  |cons c t=>
   have ih:=zXg r (zB5 acc (c::t,n)) (fun e he=>h e (by simp[he]));rw[List.foldl_cons,ih];have hst:zB5 acc (c::t,n)=if acc.getLast?=some c then acc else acc++[c]:=rfl;have hlast:(zB5 acc (c::t,n)).getLast?=some c:=by
    rw[hst]
    split
    · assumption
    · simp
   have hhd:hd (c::t,n)=c:=rfl;rw[grp];cases hg:grp r with
   |nil=>
    simp only[List.map_nil,List.map_cons,zIg,hhd,hst]
    split<;>simp
   |cons p gs=>
    obtain⟨c',G⟩:=p;simp only[hhd,List.map_cons,zIg,hlast];by_cases hc:c=c'
    · subst hc
      simp only[if_true,List.map_cons,hst]
      split<;>simp
    · have hc2:¬some c=some c':=fun e=>hc (Option.some.inj e)
      simp only[if_neg hc,if_neg hc2,List.map_cons,hst]
      split<;>simp
theorem fsts_grp{S:List En}(h:Rise S):fsts S=(grp (zAj S)).map (·.1):=by
 obtain⟨_,h2⟩:=zBi h;have h3:fsts S=(zAj S).foldl zB5 []:=by
  cases S with
  |nil=>rfl
  |cons e r=>
   obtain⟨x,n⟩:=e;cases x with
   |nil=>rfl
   |cons c t=>rfl
 rw[h3,zXg _ _ h2,List.nil_append];cases(grp (zAj S)).map (·.1)with
 |nil=>rfl
 |cons c r=>simp[zIg]
end Fm
def zN0(c:Int):List Value:=[.int .i32 c]
def IOwn(B:Nat)(w:World)(v:Value)(xs:List Int):Prop:=GOwn 21 1 B w v (xs.map zN0)
theorem rtyI:RTy 21 104 1 4:=⟨by kernel_rfl,⟨.int .i32 0,by kernel_rfl,rfl⟩,by decide,by decide⟩
theorem IOwn.last{B:Nat}{w:World}{ad:Option Addr}{n cap:Nat}{xs:List Int}(h:IOwn B w (.slice ad n cap) xs)(h0:0<n):∃g,ad=some ⟨g,0,none⟩∧n=xs.length∧∃d,xs.getLast?=some d∧w.cell? ⟨g,n-1,none⟩=some (.int .i32 d):=by
 obtain⟨a',c',e,_⟩:=GOwn.shape h;simp only[List.length_map,Value.slice.injEq]at e;obtain⟨e1,e2,e3⟩:=e;subst e2;obtain⟨g,cp,e,_,_,_,hc⟩:=GOwn.cell h (by rw[List.length_map];exact h0);simp only[List.length_map,Value.slice.injEq]at e;obtain⟨d,hd⟩:∃d,xs[xs.length-1]?=some d:=⟨xs[xs.length-1]'(by omega),List.getElem?_eq_getElem _⟩;refine⟨g,e.1,rfl,d,by rw[List.getLast?_eq_getElem?];exact hd,?_⟩;have:=hc (xs.length-1) 0 (zN0 d) (.int .i32 d) (by rw[List.getElem?_map,hd];rfl) rfl;simpa using this
theorem zKx(E:Nat)(w:World)(v:Value)(l:List En)(h:RR E w v l)(hl:l.length≤1048576):
 Calls Tryz.prog 45 #[v] w fun e w'=>∃v',e = .returned v'∧IOwn w.heap.size w' v' (fsts l)∧Below w.heap.size w w':=by
 obtain⟨ad,cap,rfl⟩:=h.form;obtain⟨n,hn⟩:∃n,l.length=n:=⟨_,rfl⟩;have HN:Hid (l.length=n):=hn;rw[hn]at h hl ⊢;have HR:Hid (RR E w (.slice ad n cap) l):=h;clear h hn;go_enter Tryz.func45,Tryz.ntmps45;go_wp2
 go_loopg [3,4] n (fun gm s5 s6 wr=>∃(k:Nat),s6 = .int .i64 k∧k≤n∧n-k≤gm∧Hid (IOwn w.heap.size wr s5 (fsts (l.take k)))∧Hid (Below w.heap.size w wr))
 case atStart=>exact⟨0,rfl,Nat.zero_le _,by omega,GOwn.nil _ _ _ _,Below.refl _ _⟩
 case round=>
  obtain⟨k,rfl,hk,hgm,HM,HB⟩:=hrel;obtain⟨sd,no,sc,hsv⟩:∃sd no sc,u3 = .slice sd no sc:=by
   obtain⟨sd,sc,hsv,_⟩:=GOwn.shape HM.out;exact⟨sd,_,sc,hsv⟩
  subst hsv;by_cases hlt:k<n
  · have hltz:(k:Int)<(n:Int):=by omega
    obtain⟨x,hxk⟩:∃x,l[k]?=some x:=⟨l[k]'(by have:=HN.out;omega),List.getElem?_eq_getElem _⟩;obtain⟨g,off,rfl,hg,hx⟩:=HR.out.at (by omega);obtain⟨u,⟨c0,c1,hr⟩,hck⟩:=hx k x hxk;obtain⟨ra,rc,hu,_⟩:=id hr;obtain⟨rn,hrn⟩:∃rn,x.1.length=rn:=⟨_,rfl⟩;rw[hrn]at hu;subst hu;have c0r:wr.cell? ⟨g,off+k*2,none⟩=some (.slice ra rn rc):=(HB.out.cell (p:=⟨g,off+k*2,none⟩) hg).trans c0;have hAF:=zXf hxk;by_cases hr0:0<rn
    · have hr0z:(0:Int)<(rn:Int):=by omega
      obtain⟨gr,o,rfl,hz,hd⟩:=hr.get (k:=0) (by omega);clear hz;obtain⟨ch,hch⟩:∃ch,x.1.headD 0=ch:=⟨_,rfl⟩;rw[Nat.add_zero,List.drop_zero,hch]at hd;have hgr:gr<w.heap.size:=zAn hd;have d0:wr.cell? ⟨gr,o,none⟩=some (.int .i32 ch):=(HB.out.cell (p:=⟨gr,o,none⟩) hgr).trans hd;have hAF2:fsts (l.take (k+1))=if (fsts (l.take k)).getLast?=some ch then fsts (l.take k)else fsts (l.take k)++[ch]:=by
       rw[hAF,zB5];cases hx1:x.1 with
       |nil=>rw[hx1]at hrn;simp at hrn;omega
       |cons a t=>rw[hx1]at hch;simp only[List.headD_cons]at hch;rw[hch]
      have HNO:Hid (no=(fsts (l.take k)).length):=by
       obtain⟨_,_,e,_⟩:=GOwn.shape HM.out;simp only[List.length_map,Value.slice.injEq]at e;exact e.2.1
      clear hAF;by_cases hno:0<no
      · obtain⟨gl,rfl,hzz,d,hd1,hd2⟩:=IOwn.last HM.out hno
        clear hzz;obtain⟨m,hm⟩:∃m,m=no-1:=⟨_,rfl⟩;have hnom:no≤1048576:=by
         have h1:=HNO.out;have h2:=zHm (l.take k);rw[List.length_take]at h2;omega
        (have hwr:IntKind.i64.wrap ((no:Int)-1)=(m:Int):=by simp[IntKind.wrap,IntKind.bits,IntKind.signed];omega);(have hmz:(m:Int)<(no:Int):=by omega);rw[←hm]at hd2;clear hm hnom;have hnoz:((no:Int)==0)=false:=beq_eq_false_iff_ne.2 (by omega);by_cases hdc:d=ch
        · have hdb:(d==ch)=true:=beq_iff_eq.2 hdc
          rw[hd1,hdc,if_pos rfl]at hAF2;(have HM2:Hid (IOwn w.heap.size wr (.slice (some ⟨gl,0,none⟩) no sc) (fsts (l.take (k+1)))):=by show IOwn _ _ _ _;rw[hAF2];exact HM.out);clear hAF2 hx hr hrn hck c0 c1 hxk hd hd1 hch hdc;(go_upto_region 5 with fail);go_quiet (fail);go_wp2;go_roundg (n-(k+1));(case measure=>omega);case rel=>exact⟨k+1,by go_num,by omega,Nat.le_refl _,GOwn.below HM2.out (belowN (Below.refl _ wr) _),HB.out.trans ((belowN (Below.refl _ wr) _).mono HB.out.size)⟩
        · have hdb:(d==ch)=false:=beq_eq_false_iff_ne.2 hdc
          rw[hd1,if_neg (fun e=>hdc (Option.some.inj e))]at hAF2;have HAF:Hid (fsts (l.take (k+1))=fsts (l.take k)++[ch]):=hAF2;clear hAF2 hx hr hrn hck c0 c1 hxk hd hd1 hch hdc;(go_upto_region 5 with fail);go_quiet (fail);(go_upto_region 6 with fail);clear hd2;obtain⟨wz,hwz⟩:∃wz,wz=wr.drewN nq:=⟨_,rfl⟩;rw[←hwz];(have hbz:Below wr.heap.size wr wz:=by rw[hwz];exact belowN (Below.refl _ wr) nq);(have cz:wz.cell? ⟨g,off+k*2,none⟩=some (.slice (some ⟨gr,o,none⟩) rn rc):=by rw[hwz];exact c0r);(have dz:wz.cell? ⟨gr,o,none⟩=some (.int .i32 ch):=by rw[hwz];exact d0);have HBZ:Hid (Below w.heap.size w wz):=HB.out.trans (hbz.mono HB.out.size);have HO:Hid (GOwn 21 1 w.heap.size wz _ ((fsts (l.take k)).map zN0)):=GOwn.below HM.out hbz;have HLN:Hid (((fsts (l.take k)).map zN0).length<1099511627776):=by
           have:=zHm (l.take k);show _<_;rw[List.length_map];rw[List.length_take]at this;omega
          clear hwz c0r d0 hbz;go_wp2_with (at_builtin;refine zC4 rtyI (by rfl) _ _ [.int .i32 ch] _ rfl w.heap.size _ _ _ _ rfl HO.out rfl rfl ⟨rfl,by simp[Value.oneCell']⟩ HLN.out HBZ.out.size ?_);intro v7 w7 ho7 hb7 hg7;have HB7:Hid (Below w.heap.size w w7):=HBZ.out.trans hb7;have HM7:Hid (IOwn w.heap.size w7 v7 (fsts (l.take (k+1)))):=by
           show IOwn _ _ _ _;rw[HAF.out];show GOwn _ _ _ _ _ _;rw[List.map_append];exact ho7
          clear ho7 hb7 hg7 cz dz;go_wp2;go_roundg (n-(k+1));(case measure=>omega);case rel=>exact⟨k+1,by go_num,by omega,Nat.le_refl _,HM7,HB7⟩
      · have hno0:no=0:=by omega
        subst hno0;have hnoz:(((0:Nat):Int)==0)=true:=rfl;(have hl0:(fsts (l.take k)).getLast?=none:=by rw[List.getLast?_eq_none_iff];exact List.eq_nil_of_length_eq_zero HNO.out.symm);rw[hl0,if_neg (by simp)]at hAF2;have HAF:Hid (fsts (l.take (k+1))=fsts (l.take k)++[ch]):=hAF2;clear hAF2 hx hr hrn hck c0 c1 hxk hd hch hl0 hno;(go_upto_region 5 with fail);go_quiet (fail);(go_upto_region 6 with fail);obtain⟨wz,hwz⟩:∃wz,wz=wr.drewN nq:=⟨_,rfl⟩;rw[←hwz];(have hbz:Below wr.heap.size wr wz:=by rw[hwz];exact belowN (Below.refl _ wr) nq);(have cz:wz.cell? ⟨g,off+k*2,none⟩=some (.slice (some ⟨gr,o,none⟩) rn rc):=by rw[hwz];exact c0r);(have dz:wz.cell? ⟨gr,o,none⟩=some (.int .i32 ch):=by rw[hwz];exact d0);have HBZ:Hid (Below w.heap.size w wz):=HB.out.trans (hbz.mono HB.out.size);have HO:Hid (GOwn 21 1 w.heap.size wz _ ((fsts (l.take k)).map zN0)):=GOwn.below HM.out hbz;have HLN:Hid (((fsts (l.take k)).map zN0).length<1099511627776):=by
         have:=zHm (l.take k);show _<_;rw[List.length_map];rw[List.length_take]at this;omega
        clear hwz c0r d0 hbz;go_wp2_with (at_builtin;refine zC4 rtyI (by rfl) _ _ [.int .i32 ch] _ rfl w.heap.size _ _ _ _ rfl HO.out rfl rfl ⟨rfl,by simp[Value.oneCell']⟩ HLN.out HBZ.out.size ?_);intro v7 w7 ho7 hb7 hg7;have HB7:Hid (Below w.heap.size w w7):=HBZ.out.trans hb7;have HM7:Hid (IOwn w.heap.size w7 v7 (fsts (l.take (k+1)))):=by
         show IOwn _ _ _ _;rw[HAF.out];show GOwn _ _ _ _ _ _;rw[List.map_append];exact ho7
        clear ho7 hb7 hg7 cz dz;go_wp2;go_roundg (n-(k+1));(case measure=>omega);case rel=>exact⟨k+1,by go_num,by omega,Nat.le_refl _,HM7,HB7⟩
    · have hr0z:¬(0:Int)<(rn:Int):=by omega
      have hx1:x.1=[]:=List.eq_nil_of_length_eq_zero (by omega);rw[zB5,hx1]at hAF;(have HM2:Hid (IOwn w.heap.size wr (.slice sd no sc) (fsts (l.take (k+1)))):=by show IOwn _ _ _ _;rw[hAF];exact HM.out);clear hAF hx hr hrn hck c0 c1 hxk hx1;(go_upto_region 5 with fail);go_quiet (fail);go_wp2;go_roundg (n-(k+1));(case measure=>omega);case rel=>exact⟨k+1,by go_num,by omega,Nat.le_refl _,GOwn.below HM2.out (belowN (Below.refl _ wr) _),HB.out.trans ((belowN (Below.refl _ wr) _).mono HB.out.size)⟩
  · have hltz:¬(k:Int)<(n:Int):=by omega
    have HE:Hid (l.take k=l):=List.take_of_length_le (by have:=HN.out;omega);go_wp2;go_ret;exact⟨_,rfl,by have:=HM.out;rwa [HE.out]at this,HB.out⟩
end
