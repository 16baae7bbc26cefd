import Derived.Test.YtobjpljdgieklaaGreatDoorWkV
import Derived.Laws.EntriesVeiled
import Derived.Shelf.Abstract
import Derived.Test.YtobjpljdgieklaaGreatDoorJ38
set_option maxRecDepth 100000
set_option maxHeartbeats 8000000
namespace Go.Proofs.YtobjpljdgieklaaGreatDoor
section
open Go.RowKit Nums Fm Pk
theorem from_any(wb:Nat)(i:Int)(w:World):
 Calls Tryz.prog 99 #[.pointer (some ⟨wb,0,none⟩),.int .i64 i] w fun e w'=>e = .returned (.func (.func 138) #[] #[.pointer (some ⟨w.heap.size,0,none⟩),.pointer (some ⟨w.heap.size+1,0,none⟩)])∧∃t1 t2,w'=(w.alloc (.cells #[.pointer (some ⟨wb,0,none⟩)] t1)).alloc (.cells #[.int .i64 i] t2):=by
 go_enter Tryz.func99,Tryz.ntmps99;go_wp2;go_ret;exact⟨rfl,_,_,rfl⟩
structure WkOn(w0:World)(wb:Nat)(l:List Pr):Prop where
 ok:zAl l=0
 tabs:Tabs w0
 at':∃D,(l≠[]→MW l (zAg l).1 (zAg l).2 D)∧Inv D (zAg l).2∧WkAt w0.heap.size w0 wb (zAg l).1 ((zAg l).2.map ofSt) (D.map List.length)
theorem WkOn.below{w0 w1:World}{wb:Nat}{l:List Pr}(h:WkOn w0 wb l)(hb:Below w0.heap.size w0 w1):WkOn w1 wb l:=by
 obtain⟨D,h1,h2,h3⟩:=h.at';refine⟨h.ok,h.tabs.below hb,D,h1,h2,?_⟩;have h4:=h3.below hb;obtain⟨vs,vw,k1,k2,k3⟩:=h4.ex;obtain⟨xss,g1,g2,g3⟩:=k2.ex;exact⟨Nat.lt_of_lt_of_le h4.lt hb.size,vs,vw,k1,⟨⟨xss,g1.mono hb.size,g2,fun i s hi=>by obtain⟨va,e1,e2⟩:=g3 i s hi;exact⟨va,e1,⟨e2.row.mono hb.size,e2.ok,e2.len⟩⟩⟩,k2.ok,k2.len⟩,k3.mono hb.size⟩
structure FS(w0:World)(wb cw ci k:Nat)(A:Nat→Prop)(W:World):Prop where
 bel:Below w0.heap.size w0 W
 loA:∀j,A j→w0.heap.size≤j
 xw:W.cell? ⟨cw,0,none⟩=some (.pointer (some ⟨wb,0,none⟩))
 xi:W.cell? ⟨ci,0,none⟩=some (.int .i64 (k:Int))
 na:¬A cw
structure S2f(cw wb:Nat)(base:Int)(W:World):Prop where
 c0:W.cell? ⟨cw,0,none⟩=some (.pointer (some ⟨wb,0,none⟩))
 c1:W.cell? ⟨wb,0,none⟩=some (.int .i64 base)
theorem S2f.facts{cw wb:Nat}{base:Int}{W:World}(h:S2f cw wb base W):W.cell? ⟨cw,0,none⟩=some (.pointer (some ⟨wb,0,none⟩))∧W.cell? ⟨wb,0,none⟩=some (.int .i64 base):=⟨h.1,h.2⟩
theorem zKu{l:List Pr}(h:zAl l=0):l=[]∨(l≠[]∧∃n,(zAg l).2.length=n+1):=by
 by_cases hl:l=[]
 · exact .inl hl
 · obtain⟨D,M⟩:=mach_walk h hl
   exact .inr ⟨hl,(zAg l).2.length-1,by have:=List.length_pos_iff.2 M.ne;omega⟩
theorem from_seq(w0:World)(wb:Nat)(l:List Pr)(h:WkOn w0 wb l)(cw ci k:Nat)(hk:k≤9223372036854775807):
 SeqIs (FS w0 wb cw ci k) 138 #[.pointer (some ⟨cw,0,none⟩),.pointer (some ⟨ci,0,none⟩)] (l.drop k):=by
 intro yv I X A W hfn hS hMI hMX hY h0 hL;obtain⟨fn,cb,rfl⟩:=hfn;obtain⟨yv,hyv⟩:∃yv,yv=Value.func fn #[] cb:=⟨_,rfl⟩;rw[←hyv]at hY ⊢;show Calls Tryz.prog 138 #[yv,.pointer (some ⟨cw,0,none⟩),.pointer (some ⟨ci,0,none⟩)] W _;obtain⟨D,hMW,hInv,hWk⟩:=h.at';have HRT:Hid (∀W',Below w0.heap.size w0 W'→Calls Tryz.prog 70 #[.pointer (some ⟨wb,0,none⟩)] W' fun e w'=>e = .returned (.int .i64 ((((zAg l).2.map ofSt).length:Int)-1))∧w'=W'):=fun W' hW=>zHh _ W' wb _ _ _ (hWk.below hW)
 obtain⟨r1,r2,r3,r4,r5⟩:=hS;rcases zKu h.ok with hl|⟨hl,n,hn⟩
 · subst hl
   have HB:Hid (Below w0.heap.size w0 W):=r1;have HFIN:Hid ((∃A',Ext A A' W∧Lies A' W∧Upd A W W∧I A' (([]:List Pr).drop k) W)):=⟨A,Ext.refl _ _,hL,Upd.refl _ _,by rw[List.drop_nil];exact h0⟩;clear hMI hMX hY h0 hL r1 r2 hWk hMW hInv h;go_enter Tryz.func138,Tryz.ntmps138;go_wp2_with (go_at_call 70;refine(HRT.out _ HB.out).mono ?_;rintro e w1 ⟨rfl,hw1⟩;rw[hw1];clear hw1);(first|go_end0|go_returns);exact⟨⟨_,rfl⟩,.inl HFIN.out⟩
 · have hM:=hMW hl
   (have hnl:((zAg l).2.map ofSt).length=n+1:=by rw[List.length_map,hn]);rw[hnl]at HRT;(have hkz:((n+1:Nat):Int)-1=(n:Int):=by omega);rw[hkz]at HRT;obtain⟨sd,sc,wd,wc,q0,q1,q2,hSt,_⟩:=hWk.facts;have hsl:=hSt.len;rw[hnl]at hsl;(have hn63:n≤9223372036854775807:=by omega);obtain⟨tb,htb⟩:∃tb,tb=W.heap.size:=⟨_,rfl⟩;obtain⟨base,hbase⟩:∃base,(zAg l).1=base:=⟨_,rfl⟩;rw[hbase]at hM hWk q0;obtain⟨W1,hW1⟩:∃W1,W1=W.alloc (.cells #[.pointer (some ⟨wb,0,none⟩),.int .i64 (k:Int),.slice none 0 0,yv] 210):=⟨_,rfl⟩;(have hb1:Below W.heap.size W W1:=by rw[hW1];exact(Below.refl _ W).alloc (Nat.le_refl _) _);have hbd:Below W.heap.size W W1.drew:=hb1.drew;have hn1:W1.drew.heap[tb]?=some (.cells #[.pointer (some ⟨wb,0,none⟩),.int .i64 (k:Int),.slice none 0 0,yv] 210):=by rw[hW1,htb];exact zAb _ _
   have hvs:VS w0 W.heap.size tb wb yv I A [] W1.drew k (.slice none 0 0) []:=
    ⟨r1.trans (hbd.mono r1.size),⟨by omega,hn1,GOwn.nil _ _ _ _⟩,fun ha=>by have:=hL tb ha;omega,fun g hg=>(by cases hg),fun j hj=>Nat.lt_of_lt_of_le (hL j hj) hbd.size,r2,hMI _ _ _ _ h0 (Upd.of_below hbd)⟩
   (have htw:tw [] base (zAd (ents l))=l:=by rw[tw,hM.top,zUi (zB2 h.ok).wd]);have hvisit:=zJ2 w0 W.heap.size wb base (zAg l).2 D hM.inv hM.rst hWk h.tabs r1.size tb yv I X hMI (l.drop k) hY (n+1) n (by omega) A [] W1.drew k (.slice none 0 0) [] base (zAd (ents l)) (by have:=hM.root;rw[hn]at this;exact this) hM.tells hvs (by rw[htw,List.nil_append];exact List.prefix_refl _) hk;rw[htw]at hvisit;have HRW:Hid (Below w0.heap.size w0 W):=r1;have HRD:Hid (Below w0.heap.size w0 W1.drew):=r1.trans (hbd.mono r1.size);have hS2:S2f cw wb base W1.drew:=⟨(hbd.cell (p:=⟨cw,0,none⟩) (World.block_lt_of_cell? _ _ r3)).trans r3,(HRD.out.cell (p:=⟨wb,0,none⟩) hWk.lt).trans q0⟩;have hcwl:cw<W.heap.size:=World.block_lt_of_cell? _ _ r3;have hcwn:¬(A cw∨cw=tb∨(Value.slice none 0 0).ownBlock=some cw):=by
    rintro(g|g|g)
    · exact r5 g
    · omega
    · cases g
   have HVI:Hid (Calls Tryz.prog 139 #[.pointer (some ⟨tb,0,none⟩),.int .i64 (n:Int),.int .i64 base] W1.drew fun e W'=>∃bb,e = .returned (.bool bb)∧S2f cw wb base W'∧((∃A',Ext A A' W∧Lies A' W'∧Upd A W W'∧I A' (l.drop k) W')∨∃q A',q<+:l.drop k∧Ext A A' W∧Lies A' W'∧Upd A W W'∧X A' q W')):=by
    refine hvisit.mono ?_;have key:∀W',Upd (fun j=>A j∨j=tb∨(Value.slice none 0 0).ownBlock=some j) W1.drew W'→Upd A W W'∧S2f cw wb base W':=fun W' h2=>by
     have hbw:Below w0.heap.size w0 W':=HRD.out.trans (h2.below HRD.out.size (fun j g=>by
      rcases g with g|g|g
      · exact r2 j g
      · have:=r1.size;omega
      · cases g))
     refine⟨(Upd.of_below hbd).trans h2 (fun j hj g=>?_),(World.cell?_of_block (a:=⟨cw,0,none⟩) (h2.block cw (Nat.lt_of_lt_of_le hcwl hbd.size) hcwn)).trans hS2.1,(hbw.cell (p:=⟨wb,0,none⟩) hWk.lt).trans q0⟩;rcases g with g|g|g
     · exact g
     · omega
     · cases g
    rintro e W' (⟨rfl,A',pv',h1,h2,h3,h4⟩|⟨rfl,q,A',h0',h1,h2l,h2,h3⟩)
    · obtain⟨k1,k2⟩:=key W' h2
      exact⟨_,rfl,k2,.inl ⟨A',⟨h1.1,fun j hj=>(h1.2 j hj).imp id (fun g=>Nat.le_trans hbd.size g)⟩,h3.lies,k1,by simpa using h3.inv⟩⟩
    · obtain⟨k1,k2⟩:=key W' h2
      exact⟨_,rfl,k2,.inr ⟨q,A',h0',⟨h1.1,fun j hj=>(h1.2 j hj).imp id (fun g=>Nat.le_trans hbd.size g)⟩,h2l,k1,by simpa using h3⟩⟩
   subst hyv;clear hMI hMX hY h0 hL r1 r2 r5 hcwl hcwn hWk hMW hInv h hvs hvisit htw hM hSt q0 q1 q2 hb1 hbd hn1 hl hsl hbase hnl;go_enter Tryz.func138,Tryz.ntmps138;(go_upto_region 2 with(go_at_call 70;refine(HRT.out _ HRW.out).mono ?_;rintro e w1 ⟨rfl,hw1⟩;rw[hw1];clear hw1));rw[←hW1,←htb];clear hW1 htb;refine zAf (S:=S2f cw wb base) 8 rfl zAn hS2 (fun _=>?_);refine tq4 S2f.facts 0 12 2 14 3 15 4 16 ?_;simp only[sZa,sZb,sZc];refine tq2 S2f.facts 5 17 6 18 ?_;simp only[sZa,sZb,sZc];refine oc 1 W1.drew 13 70 #[.pointer (some ⟨wb,0,none⟩)] ?_;refine(HRT.out _ HRD.out).mono ?_;rintro e w1 ⟨rfl,hw1⟩;rw[hw1];clear hw1;refine⟨_,rfl,hS2,fun _=>?_⟩;simp only[sZa,sZb,sZc];refine oc 7 W1.drew 19 139 #[.pointer (some ⟨tb,0,none⟩),.int .i64 (n:Int),.int .i64 base] ?_;refine HVI.out.mono ?_;rintro e W' ⟨bb,rfl,hs2,hpost⟩;refine⟨_,rfl,hs2,fun _=>?_⟩;simp only[sZa,sZb,sZc];refine wpAnyH_done (by kernel_rfl) ?_ _
   go_end0
   exact⟨⟨_,rfl⟩,hpost⟩
end
section
open Go.RowKit Go.Shelf Nums Fm Pk
attribute [local go_sem] Oper.semAt_some
end
section
open Go.RowKit Nums Fm Pk
structure FirstAt(n:Nat)(p:Nat→Bool)(r:Nat):Prop where
 le:r≤n
 lo:∀k,k<r→p k=false
 hi:∀k,r≤k→k<n→p k=true
end
section
open Go.RowKit Nums Fm Pk Pm
theorem LenW_any(w:World)(wb:Nat)(l:List Pr)(h:WkOn w wb l):
 Calls Tryz.prog 58 #[.pointer (some ⟨wb,0,none⟩)] w fun e w'=>e = .returned (.int .i64 (l.length:Int))∧Below w.heap.size w w':=by
 obtain⟨D,hM,hI,hW⟩:=h.at';have h1:=Len_any _ w wb _ _ _ hW (by rw[List.length_map,List.length_map,hI.len]);have e:(D.map List.length).getD (((zAg l).2.map ofSt).length-1) 0=l.length:=by
  rcases zKu h.ok with hl|⟨hl,n,hn⟩
  · subst hl
    have:D=[]:=by
     have:=hI.len;simpa[zAg]using this
    rw[this];rfl
  · have hr:=(hM hl).root
    rw[List.length_map,List.getD_eq_getElem?_getD,List.getElem?_map,hr];show(zAd (ents l)).length=_;simp[zAd,zAh,ents]
 rw[e]at h1;exact h1
theorem zMz(a:RArc)(c:Int)(w:World):
 Calls Tryz.prog 110 #[.agg #[.int .i32 a.label,.int .i64 a.out,.int .i64 a.to],.int .i32 c] w fun e w'=>e = .returned (.int .i64 (cmpI a.label c))∧Below w.heap.size w w':=by
 obtain⟨W,hW⟩:∃W,W=w.alloc (.cells #[.int .i32 a.label,.int .i64 a.out,.int .i64 a.to] 126):=⟨_,rfl⟩;have hb:Below w.heap.size w W:=by rw[hW];exact(Below.refl _ w).alloc (Nat.le_refl _) _
 have c0:W.cell? ⟨w.heap.size,0,none⟩=some (.int .i32 a.label):=by rw[hW];simp
 have HB:Hid (Below w.heap.size w W):=hb;clear hb;go_enter Tryz.func110,Tryz.ntmps110;go_upto_region 1 with fail
 rw[←hW];clear hW;go_wp2_with (go_at_call 111;refine(zRa a.label c W).mono ?_;rintro e w1 ⟨rfl,hw1⟩;rw[hw1];clear hw1);go_ret;exact⟨rfl,HB.out⟩
def zBr(l:List RArc)(k:Nat):Int:=(l.getD k ⟨0,0,0⟩).label
theorem zDq{l:List RArc}{k:Nat}{a:RArc}(h:l[k]?=some a):zBr l k=a.label:=by unfold zBr;rw[List.getD_eq_getElem?_getD,h];rfl
theorem zWz{x y:Int}:cmpI x y<0↔x<y:=by unfold cmpI;split<;>(try split)<;>omega
theorem zW0{x y:Int}:cmpI x y=0↔x=y:=by unfold cmpI;split<;>(try split)<;>omega
def hitB(l:List RArc)(c:Int)(r:Nat):Bool:=decide (r<l.length∧zBr l r=c)
theorem zV5{l:List RArc}{c:Int}{r:Nat}(h:r<l.length∧zBr l r=c):hitB l c r=true:=decide_eq_true h
theorem zV6{l:List RArc}{c:Int}{r:Nat}(h:¬(r<l.length∧zBr l r=c)):hitB l c r=false:=decide_eq_false h
theorem bsf_any(E:Nat)(w:World)(l:List RArc)(va:Value)(c:Int)(h:ArcsAt E w va l)(hE:E≤w.heap.size)(hs:∀a b,a<b→b<l.length→zBr l a<zBr l b)(hl:l.length≤1114112):
 Calls Tryz.prog 109 #[va,.int .i32 c,.func (.func 110) #[] #[]] w fun e w'=>∃r:Nat,e = .returned (.tuple #[.int .i64 (r:Int),.bool (hitB l c r)])∧FirstAt l.length (fun k=>decide (c≤zBr l k)) r∧Below w.heap.size w w':=by
 obtain⟨ad,cap,rfl⟩:=h.shape;obtain⟨n,hn⟩:∃n,l.length=n:=⟨_,rfl⟩;have HN:Hid (l.length=n):=hn;have HA:Hid (ArcsAt E w (.slice ad n cap) l):=by have:=h;rw[hn]at this;exact this
 have HS:Hid (∀a b,a<b→b<n→zBr l a<zBr l b):=by rw[←hn];exact hs
 rw[hn]at hl ⊢;clear h hs hn;go_enter Tryz.func109,Tryz.ntmps109;go_wp2
 go_loopg [9,10,11] n (fun gm s5 s6 _ wr=>∃(i j:Nat),s5 = .int .i64 i∧s6 = .int .i64 j∧i≤j∧j≤n∧j-i≤gm∧Hid ((∀k,k<i→zBr l k<c)∧∀k,j≤k→k<n→c≤zBr l k)∧Hid (Below w.heap.size w wr))
 case atStart=>exact⟨0,n,rfl,rfl,Nat.zero_le _,Nat.le_refl _,by omega,⟨fun k hk=>by omega,fun k h1 h2=>by omega⟩,Below.refl _ _⟩
 case round=>
  obtain⟨i,j,rfl,rfl,hij,hjn,hgm,HP,HB⟩:=hrel;by_cases hlt:i<j
  · have hltz:(i:Int)<(j:Int):=by omega
    obtain⟨h,hh⟩:∃h,h=(i+j)/2:=⟨_,rfl⟩;(have h1:i≤h:=by omega);(have h2:h<j:=by omega);(have HHZ:Hid (((i:Int)+(j:Int))/2=(h:Int)):=by show _=_;omega);obtain⟨a,ha⟩:∃a,l[h]?=some a:=⟨l[h]'(by have:=HN.out;omega),List.getElem?_eq_getElem _⟩;obtain⟨g,off,hg0,hg,d0,d1,d2⟩:=(HA.out.below (HB.out.mono hE)).at ha;subst hg0;have HC:Hid (Calls Tryz.prog 110 #[.agg #[.int .i32 a.label,.int .i64 a.out,.int .i64 a.to],.int .i32 c] wr fun e w'=>e = .returned (.int .i64 (cmpI a.label c))∧Below wr.heap.size wr w'):=zMz a c wr;have HLA:Hid (zBr l h=a.label):=zDq ha;(have hhn:(h:Int)<(n:Int):=by omega);clear hh ha;(go_upto_region 5 with fail);rw[HHZ.out];by_cases hc:a.label<c
    · have hcz:cmpI a.label c<0:=zWz.2 hc
      have HNX:Hid ((∀k,k<h+1→zBr l k<c)∧∀k,j≤k→k<n→c≤zBr l k):=⟨fun k hk=>(by
       by_cases e:k=h
       · rw[e,HLA.out];exact hc
       · have:=HS.out k h (by omega) (by omega);rw[HLA.out]at this;omega),HP.out.2⟩
      go_wp2_with (go_at_call 110;refine HC.out.mono ?_;rintro e w2 ⟨rfl,hb2⟩;have HB2:Hid (Below w.heap.size w w2):=HB.out.trans (hb2.mono HB.out.size);clear hb2);go_roundg (j-(h+1));(case measure=>omega);case rel=>exact⟨h+1,j,by go_num,by go_num,by omega,hjn,Nat.le_refl _,HNX,HB2⟩
    · have hcz:¬cmpI a.label c<0:=fun e=>hc (zWz.1 e)
      have HNX:Hid ((∀k,k<i→zBr l k<c)∧∀k,h≤k→k<n→c≤zBr l k):=⟨HP.out.1,fun k h3 h4=>(by
       by_cases e:k=h
       · rw[e,HLA.out];omega
       · have:=HS.out h k (by omega) h4;rw[HLA.out]at this;omega)⟩
      go_wp2_with (go_at_call 110;refine HC.out.mono ?_;rintro e w2 ⟨rfl,hb2⟩;have HB2:Hid (Below w.heap.size w w2):=HB.out.trans (hb2.mono HB.out.size);clear hb2);go_roundg (h-i);(case measure=>omega);case rel=>exact⟨i,h,by go_num,by go_num,h1,by omega,Nat.le_refl _,HNX,HB2⟩
  · have hltz:¬(i:Int)<(j:Int):=by omega
    (have hji:j=i:=by omega);subst hji;have HFA:Hid (FirstAt n (fun k=>decide (c≤zBr l k)) j):=⟨hjn,fun k hk=>decide_eq_false (by have:=HP.out.1 k hk;omega),fun k h1 h2=>decide_eq_true (HP.out.2 k h1 h2)⟩;by_cases hjl:j<n
    · have hjz:(j:Int)<(n:Int):=by omega
      obtain⟨a,ha⟩:∃a,l[j]?=some a:=⟨l[j]'(by have:=HN.out;omega),List.getElem?_eq_getElem _⟩;obtain⟨g,off,hg0,hg,d0,d1,d2⟩:=(HA.out.below (HB.out.mono hE)).at ha;subst hg0;have HC:Hid (Calls Tryz.prog 110 #[.agg #[.int .i32 a.label,.int .i64 a.out,.int .i64 a.to],.int .i32 c] wr fun e w'=>e = .returned (.int .i64 (cmpI a.label c))∧Below wr.heap.size wr w'):=zMz a c wr;have HLA:Hid (zBr l j=a.label):=zDq ha;have HDC:Hid (hitB l c j=(cmpI a.label c==0)):=by
       show _=_;by_cases e:a.label=c
       · rw[zV5 ⟨by have:=HN.out;omega,HLA.out.trans e⟩,zW0.2 e];rfl
       · rw[zV6 (fun g=>e (HLA.out.symm.trans g.2))]
         exact(beq_eq_false_iff_ne.2 (fun g=>e (zW0.1 g))).symm
      clear ha;go_wp2_with (go_at_call 110;refine HC.out.mono ?_;rintro e w2 ⟨rfl,hb2⟩;have HB2:Hid (Below w.heap.size w w2):=HB.out.trans (hb2.mono HB.out.size);clear hb2);go_ret2;exact⟨j,by rw[HDC.out];rfl,HFA.out,HB2.out⟩
    · have hjz:¬(j:Int)<(n:Int):=by omega
      go_wp2;go_ret2;have e:hitB l c j=false:=zV6 (fun g=>hjl (by have:=HN.out;have:=g.1;omega));exact⟨j,by rw[e];rfl,HFA.out,HB.out⟩
def arcV(a:RArc):Value := .agg #[.int .i32 a.label,.int .i64 a.out,.int .i64 a.to]
def zA:RArc:=⟨0,0,0⟩
def fa(l:List RArc)(c:Int):Option RArc:=l.find? fun a=>a.label==c
theorem fa_first{l:List RArc}{c:Int}{r:Nat}(hs:∀a b,a<b→b<l.length→zBr l a<zBr l b)(h:FirstAt l.length (fun k=>decide (c≤zBr l k)) r):(r<l.length∧zBr l r=c→∃a,l[r]?=some a∧fa l c=some a)∧(¬(r<l.length∧zBr l r=c)→fa l c=none):=by
 constructor
 · rintro⟨h1,h2⟩
   obtain⟨a,ha⟩:∃a,l[r]?=some a:=⟨l[r],List.getElem?_eq_getElem _⟩;refine⟨a,ha,?_⟩;unfold fa;rw[List.find?_eq_some_iff_getElem];have e:=zDq ha;obtain⟨h3,h4⟩:=List.getElem?_eq_some_iff.1 ha;refine⟨by rw[beq_iff_eq];omega,r,h3,h4,fun j hj=>?_⟩;have h5:=h.lo j hj;have h6:=of_decide_eq_false h5;rw[zDq (List.getElem?_eq_getElem (show j<l.length by omega))]at h6;simp only[Bool.not_eq_true',beq_eq_false_iff_ne];omega
 · intro hn
   unfold fa;rw[List.find?_eq_none];intro a ha he;obtain⟨j,hj,rfl⟩:=List.getElem_of_mem ha;have e:=zDq (List.getElem?_eq_getElem hj);(have he':l[j].label=c:=by simpa using he);rcases Nat.lt_trichotomy j r with g|g|g
   · have:=of_decide_eq_false (h.lo j g)
     omega
   · subst g
     exact hn ⟨hj,by omega⟩
   · have h1:=hs r j g hj
     have h2:=of_decide_eq_true (h.hi r (Nat.le_refl _) (by omega));omega
theorem zJm{tmps:Array Value}{w:World}{qb:Nat}{a b c d:Value}(h2:tmps.getD 4 undef = .pointer (some ⟨qb,0,none⟩))(h5:tmps.getD 5 undef=d)(c0:w.cell? ⟨qb,0,none⟩=some a)(c1:w.cell? ⟨qb,1,none⟩=some b)(c2:w.cell? ⟨qb,2,none⟩=some c):(results Tryz.f72 tmps).run Tryz.prog w = .ok (.tuple #[.agg #[a,b,c],d]) w:=by
 have h2':tmps[4]?.getD undef = .pointer (some ⟨qb,0,none⟩):=by simpa using h2
 have h5':tmps[5]?.getD undef=d:=by simpa using h5
 simp[results,Tryz.results72,go_sem,h2',h5',c0,c1,c2]
theorem find_any(E:Nat)(w:World)(l:List RArc)(va:Value)(c:Int)(h:ArcsAt E w va l)(hE:E≤w.heap.size)(hs:∀a b,a<b→b<l.length→zBr l a<zBr l b)(hl:l.length≤1114112):
 Calls Tryz.prog 72 #[va,.int .i32 c] w fun e w'=>e = .returned (.tuple #[arcV ((fa l c).getD zA),.bool (fa l c).isSome])∧Below w.heap.size w w':=by
 obtain⟨ad,cap,rfl⟩:=h.shape;obtain⟨n,hn⟩:∃n,l.length=n:=⟨_,rfl⟩;obtain⟨qb,hqb⟩:∃qb,qb=w.heap.size:=⟨_,rfl⟩;obtain⟨W1,hW1⟩:∃W1,W1=w.alloc (.cells #[.int .i32 0,.int .i64 0,.int .i64 0] 126):=⟨_,rfl⟩;have hb1:Below w.heap.size w W1:=by rw[hW1];exact(Below.refl _ w).alloc (Nat.le_refl _) _
 have hn1:W1.heap[qb]?=some (.cells #[.int .i32 0,.int .i64 0,.int .i64 0] 126):=by rw[hW1,hqb];exact zAb _ _
 have HA:Hid (ArcsAt E W1 (.slice ad l.length cap) l):=h.below (hb1.mono hE);have HBS:Hid (Calls Tryz.prog 109 #[.slice ad l.length cap,.int .i32 c,.func (.func 110) #[] #[]] W1 fun e w'=>∃r:Nat,e = .returned (.tuple #[.int .i64 (r:Int),.bool (hitB l c r)])∧((r<l.length∧zBr l r=c→∃a,l[r]?=some a∧fa l c=some a)∧(¬(r<l.length∧zBr l r=c)→fa l c=none))∧Below W1.heap.size W1 w'):=by
  refine(bsf_any E W1 l _ c (h.below (hb1.mono hE)) (Nat.le_trans hE hb1.size) hs hl).mono ?_;rintro e w' ⟨r,rfl,h2,h3⟩;exact⟨r,rfl,fa_first hs h2,h3⟩
 have HB1:Hid (Below w.heap.size w W1):=hb1;have HN1:Hid (W1.heap[qb]?=some (.cells #[.int .i32 0,.int .i64 0,.int .i64 0] 126)):=hn1;have HN:Hid (l.length=n):=hn;rw[hn]at HBS HA hl ⊢;have HQ:Hid (qb=w.heap.size):=hqb;clear h hb1 hn1 hs hn;go_enter Tryz.func72,Tryz.ntmps72;go_upto_region 1 with fail
 rw[←hqb,←hW1];clear hqb hW1;go_upto_region 2 with(go_at_call 109;refine HBS.out.mono ?_;rintro e w2 ⟨r,rfl,hfr,hb2⟩;have HFR:Hid _:=hfr;have HB2:Hid (Below W1.heap.size W1 w2):=hb2;clear hfr hb2)
 have hk2:w2.heap[qb]?=some (.cells #[.int .i32 0,.int .i64 0,.int .i64 0] 126):=(HB2.out.block qb (Array.getElem?_eq_some_iff.1 HN1.out).1).trans HN1.out;have z0:w2.cell? ⟨qb,0,none⟩=some (.int .i32 0):=by simp[World.cell?,hk2]
 have z1:w2.cell? ⟨qb,1,none⟩=some (.int .i64 0):=by simp[World.cell?,hk2]
 have z2:w2.cell? ⟨qb,2,none⟩=some (.int .i64 0):=by simp[World.cell?,hk2]
 have f0:∀o,w2.frozen? ⟨qb,o,none⟩=false:=fun o=>by simp[World.frozen?,hk2]
 have HK2:Hid (w2.heap[qb]?=some (.cells #[.int .i32 0,.int .i64 0,.int .i64 0] 126)):=hk2;have hbw2:Below w.heap.size w w2:=HB1.out.trans (HB2.out.mono HB1.out.size);have HBW:Hid (Below w.heap.size w w2):=hbw2;have HEND:Hid (∀(a:RArc),((((w2.setCell ⟨qb,0,none⟩ (.int .i32 a.label)).setCell ⟨qb,1,none⟩ (.int .i64 a.out)).setCell ⟨qb,2,none⟩ (.int .i64 a.to)).heap[qb]?=some (.cells #[.int .i32 a.label,.int .i64 a.out,.int .i64 a.to] 126))∧Below w.heap.size w (((w2.setCell ⟨qb,0,none⟩ (.int .i32 a.label)).setCell ⟨qb,1,none⟩ (.int .i64 a.out)).setCell ⟨qb,2,none⟩ (.int .i64 a.to))):=fun a=>by
  refine⟨by rw[zAu (zAu (zAu hk2 _) _) _];rfl,hbw2.trans (Upd.below (F:=fun k=>k=qb) (zBo (F:=fun k=>k=qb) (zBo (F:=fun k=>k=qb) (zBo (F:=fun k=>k=qb) (Upd.refl _ _) _ rfl) _ rfl) _ rfl) hbw2.size (fun k e=>by have:=HQ.out;omega))⟩
 clear hk2 hbw2;by_cases hyes:r<l.length∧zBr l r=c
 · obtain⟨a,ha,hfa⟩:=HFR.out.1 (by rw[←HN.out];exact hyes)
   have HFA:Hid (fa l c=some a):=hfa;(have hrn:(r:Int)<(n:Int):=by have:=hyes.1;have:=HN.out;omega);obtain⟨g,off,hg0,hg,d0,d1,d2⟩:=(HA.out.below (HB2.out.mono (Nat.le_trans hE HB1.out.size))).at ha;subst hg0;rw[zV5 hyes];clear hfa ha hyes;go_wp2;obtain⟨e1,e2⟩:=HEND.out a;generalize ((w2.setCell ⟨qb,0,none⟩ (.int .i32 a.label)).setCell ⟨qb,1,none⟩ (.int .i64 a.out)).setCell ⟨qb,2,none⟩ (.int .i64 a.to)=W9 at e1 e2;refine bodyPost_ret (zJm (a := .int .i32 a.label) (b := .int .i64 a.out) (c := .int .i64 a.to) (d := .bool true) rfl rfl (by simp[World.cell?,e1]) (by simp[World.cell?,e1]) (by simp[World.cell?,e1])) rfl ?_;exact⟨by rw[HFA.out];rfl,e2⟩
 · have hfa:=HFR.out.2 (by rw[←HN.out];exact hyes)
   have HFA:Hid (fa l c=none):=hfa;rw[zV6 hyes];clear hfa hyes;go_wp2;obtain⟨e1,e2⟩:=HEND.out zA;simp only[zA]at e1 e2;generalize ((w2.setCell ⟨qb,0,none⟩ (.int .i32 0)).setCell ⟨qb,1,none⟩ (.int .i64 0)).setCell ⟨qb,2,none⟩ (.int .i64 0)=W9 at e1 e2;refine bodyPost_ret (zJm (a := .int .i32 0) (b := .int .i64 0) (c := .int .i64 0) (d := .bool false) rfl rfl (by simp[World.cell?,e1]) (by simp[World.cell?,e1]) (by simp[World.cell?,e1])) rfl ?_;exact⟨by rw[HFA.out];rfl,e2⟩
end
