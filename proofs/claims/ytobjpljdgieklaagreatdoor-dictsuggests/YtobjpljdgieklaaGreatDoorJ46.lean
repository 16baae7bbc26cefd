import Derived.Test.YtobjpljdgieklaaGreatDoorFzVis
import Derived.Deep.LoopGhost
import Derived.Test.YtobjpljdgieklaaGreatDoorJ24
import Derived.Test.YtobjpljdgieklaaGreatDoorJ31
import Derived.Deep.QuietTactic
import Derived.BigQuiet
import Derived.Laws.StructEq
set_option maxRecDepth 100000
namespace Go.Proofs.YtobjpljdgieklaaGreatDoor
section
open Go.RowKit Nums Fm Pk Fz Ed Lv
attribute [local go_sem ↓] zA7 zCg zA0 zA6
attribute [local go_sem] zEo
structure S0c(b0 b1 b2 b3 b4 sb:Nat)(la o:Int)(tnn:Nat)(tx:ByteArray)(wt:Int)(row:List Nat)(W:World):Prop where
 c0:W.heap[b0]?=some (.cells #[.pointer (some ⟨sb,0,none⟩)] 179 (0,0))
 c1:W.heap[b1]?=some (.cells #[.int .i32 la,.int .i64 o,.int .i64 (tnn:Int)] 126 (0,0))
 c2:W.heap[b2]?=some (.cells #[.string tx] 9 (0,0))
 c3:W.heap[b3]?=some (.cells #[.int .i64 wt] 3 (0,0))
 c4:RAt W b4 row
variable {b0 b1 b2 b3 b4 sb tnn:Nat} {la o wt:Int} {tx:ByteArray} {row:List Nat} {W W':World}
theorem S0c.facts(h:S0c b0 b1 b2 b3 b4 sb la o tnn tx wt row W):W.cell? ⟨b0,0,none⟩=some (.pointer (some ⟨sb,0,none⟩))∧W.cell? ⟨b1,0,none⟩=some (.int .i32 la)∧W.cell? ⟨b1,1,none⟩=some (.int .i64 o)∧W.cell? ⟨b1,2,none⟩=some (.int .i64 (tnn:Int))∧W.cell? ⟨b2,0,none⟩=some (.string tx)∧W.cell? ⟨b3,0,none⟩=some (.int .i64 wt):=
 ⟨by simp[World.cell?,h.c0],by simp[World.cell?,h.c1],by simp[World.cell?,h.c1],by simp[World.cell?,h.c1],by simp[World.cell?,h.c2],by simp[World.cell?,h.c3]⟩
theorem S0c.sfe(h:S0c b0 b1 b2 b3 b4 sb la o tnn tx wt row W)(hs:Sfe (fun _=>True) W W'):S0c b0 b1 b2 b3 b4 sb la o tnn tx wt row W':=
 ⟨(hs _ _ _ trivial h.c0 (by decide) (by decide) (by decide)).trans h.c0,(hs _ _ _ trivial h.c1 (by decide) (by decide) (by decide)).trans h.c1,(hs _ _ _ trivial h.c2 (by decide) (by decide) (by decide)).trans h.c2,(hs _ _ _ trivial h.c3 (by decide) (by decide) (by decide)).trans h.c3,(hs _ _ _ trivial h.c4 (by decide) (by decide) (by decide)).trans h.c4⟩
structure ItOk(base:Int)(D:List (List En))(b:List St)(i:It):Prop where
 tol:i.to<b.length
 tl:Tells base (i.head++[i.lab]) (i.wt+i.out) (D[i.to]?.getD [])
 hl:i.head.length<24
 wt:0≤i.wt∧0≤i.out∧i.wt+i.out≤1048576
theorem zQ8{D:List (List En)}{s:St}(h:s.final=true):([],s.out)∈exp D s:=by
 unfold exp fins;rw[if_pos h];simp
set_option maxHeartbeats 2000000 in
theorem clo_any(w0:World)(B:Nat)(W:World)(sb wb lb:Nat)(xs:List Int)(d:Nat)(tv fv:Value)(cls:List Value)(its:List It)(fs:List Mt)(s:St)(i:It)(b0 b1 b2 b3 b4:Nat){base:Int}{D:List (List En)}{b:List St}(hI:Fm.Inv D b)(hR:Rests base D)(hb:b[i.to]?=some s)
 (hB0:w0.heap.size≤B) (hbel:Below w0.heap.size w0 W) (hT:Tabs w0) (hL:LevAt w0 lb xs d) (h:SrAt (fun _=>True) B W sb wb lb xs d tv fv cls its fs) (hst:zHl w0 wb (i.to:Int) s) (hok:ItOk base D b i)
 (hc:S0c b0 b1 b2 b3 b4 sb i.lab i.out i.to (zAv i.head) i.wt (rowL xs d (i.head++[i.lab])) W) (hf:fs.length<1000000000) (hi:its.length+s.arcs.length<1000000000):
 Calls Tryz.prog 117 #[.pointer (some ⟨b0,0,none⟩),.pointer (some ⟨b1,0,none⟩),.pointer (some ⟨b2,0,none⟩),.pointer (some ⟨b3,0,none⟩),.pointer (some ⟨b4,0,none⟩)] W (zGv B W sb wb lb xs d tv fv (its++push xs d (i.head++[i.lab]) (i.wt+i.out) s.arcs) (fs++hits xs d (udF (i.head++[i.lab]) (i.wt+i.out) s))):=by
 have hw:s.final=true→0≤i.wt+i.out∧0≤s.out∧i.wt+i.out+s.out≤1048576:=fun hfin=>by
  have h1:=(hI.row _ s hb).1;have h2:=hok.tl.wt ([],s.out) (by rw[h1];exact zQ8 hfin);have h3:=hR.nn _ (List.mem_of_getElem? h1) _ (zQ8 hfin);have h4:=hok.wt;simp only at h2 h3;omega
 have hall:allR (i.head++[i.lab])=true:=zHm hok.tl.hr;have hall1:allR i.head=true:=zHm fun c hc=>hok.tl.hr c (List.mem_append.2 (.inl hc))
 have hall2:allR [i.lab]=true:=zHm fun c hc=>hok.tl.hr c (List.mem_append.2 (.inr hc))
 have HBH:Hid (∀V,Below W.heap.size W V→Calls Tryz.prog 118 #[.string (zAv i.head),.int .i32 i.lab] V fun e w'=>e = .returned (.string (zAv (i.head++[i.lab])))∧Below V.heap.size V w'):=fun V hV=>zM4 i.head i.lab V (hT.below (hbel.trans (hV.mono hbel.size))) hall1 hall2 (by have:=hok.hl;omega)
 have HVI:Hid (∀V,Below W.heap.size W V→Calls Tryz.prog 74 #[.pointer (some ⟨sb,0,none⟩),.int .i64 (i.to:Int),.string (zAv (i.head++[i.lab])),.int .i64 (i.wt+i.out),rV (rowL xs d (i.head++[i.lab]))] V (zGv B V sb wb lb xs d tv fv (its++push xs d (i.head++[i.lab]) (i.wt+i.out) s.arcs) (fs++hits xs d (udF (i.head++[i.lab]) (i.wt+i.out) s)))):=fun V hV=>zE5 w0 B V sb wb lb xs d tv fv cls its fs (i.to:Int) s (i.head++[i.lab]) (i.wt+i.out) hB0 (hbel.trans (hV.mono hbel.size)) hL (h.below hV) hst hw hf hi
 have hwt:=hok.wt;have hwr:IntKind.i64.wrap (i.wt+i.out)=i.wt+i.out:=by rw[IntKind.wrap_i64];omega
 have HH:Hid (SrAt (fun _=>True) B W sb wb lb xs d tv fv cls its fs):=h;obtain⟨its2,hits2⟩:∃x,its++push xs d (i.head++[i.lab]) (i.wt+i.out) s.arcs=x:=⟨_,rfl⟩;obtain⟨fs2,hfs2⟩:∃x,fs++hits xs d (udF (i.head++[i.lab]) (i.wt+i.out) s)=x:=⟨_,rfl⟩;rw[hits2,hfs2]at HVI ⊢;obtain⟨tx,htx⟩:∃tx,zAv i.head=tx:=⟨_,rfl⟩;obtain⟨ty,hty⟩:∃ty,zAv (i.head++[i.lab])=ty:=⟨_,rfl⟩;obtain⟨row,hrow⟩:∃row,rowL xs d (i.head++[i.lab])=row:=⟨_,rfl⟩;have hrl:row.length=25:=by rw[←hrow];exact zBw _ _ _
 obtain⟨sm,hsm⟩:∃sm,i.wt+i.out=sm:=⟨_,rfl⟩;rw[htx,hty]at HBH;rw[hty,hrow,hsm]at HVI;rw[htx,hrow]at hc;rw[hsm]at hwr;obtain⟨tnn,hto⟩:∃tnn,i.to=tnn:=⟨_,rfl⟩;obtain⟨la,hla⟩:∃la,i.lab=la:=⟨_,rfl⟩;obtain⟨o,ho⟩:∃o,i.out=o:=⟨_,rfl⟩;obtain⟨wt,hwte⟩:∃wt,i.wt=wt:=⟨_,rfl⟩;rw[hto,hla,ho,hwte]at hc;rw[hla]at HBH;rw[hto]at HVI;rw[hwte,ho]at hsm;clear hits2 hfs2 htx hty hrow hw hall hall1 hall2 hwt hto hla ho hwte hst hok hf hi h hT hL hbel hB0 hb hI hR;have hS0:S0c b0 b1 b2 b3 b4 sb la o tnn tx wt row W.drew:=hc.sfe (Sfe.of_below (Below.refl _ W).drew);go_enter Tryz.func117,Tryz.ntmps117;go_upto_region 0 with fail
 refine zAe (S:=S0c b0 b1 b2 b3 b4 sb la o tnn tx wt row) 13 rfl zAr hS0 (fun _=>?_);refine tq4 S0c.facts 0 5 1 6 2 7 3 8 ?_;simp only[sZa,sZb,sZc];refine tq4 S0c.facts 4 9 5 10 7 12 8 13 ?_;simp only[sZa,sZb,sZc];refine tq S0c.facts 9 14 ?_;simp only[sZa,sZb,sZc];refine tk (i:=10) (v := .int .i64 sm) 15 rfl rfl (by kernel_rfl) (fun w hSw=>by(clear hSw;go_simp;first|done|exact rfl|(rw[hsm];exact congrArg _ hwr)|simp_all)) ?_;simp only[sZa,sZb,sZc];refine tk (i:=11) (v:=rV row) 16 rfl rfl (by kernel_rfl) (fun w hSw=>by(have h2:=zBj hSw.c4.range hrl;exact(zA0 _ (.tmp 4) _ _ _ _ _ _).trans (congrArg (fun z=>Result.andThen z (fun v w'=>Result.ok (Next.value v) w')) h2))) ?_;simp only[sZa,sZb,sZc];refine zAh (i:=6) (w0:=W.drew) 11 118 #[.string tx,.int .i32 la] (by kernel_rfl) rfl rfl (by rfl) (by kernel_rfl) ?_;refine(HBH.out W.drew (Below.refl _ W).drew).mono ?_;rintro e w2 ⟨rfl,hb2⟩;have hbW2:Below W.heap.size W w2:=(Below.refl _ W).drew.trans (hb2.mono (Nat.le_refl _));have hS2:=hS0.sfe (Sfe.of_below hb2);refine⟨_,rfl,hS2,fun _=>?_⟩;simp only[sZa,sZb,sZc];refine zAh (i:=12) (w0:=w2) 17 74 #[.pointer (some ⟨sb,0,none⟩),.int .i64 (tnn:Int),.string ty,.int .i64 sm,rV row] (by kernel_rfl) rfl rfl (by rfl) (by kernel_rfl) ?_;refine(HVI.out w2 hbW2).mono ?_;rintro e w3 ⟨⟨v,rfl⟩,tv',fv',cls',hs3,hu3⟩;have hS3:=hS2.sfe ((HH.out.below hbW2).sfe hu3);refine⟨_,rfl,hS3,fun _=>?_⟩;simp only[sZa,sZb,sZc];refine wpAnyH_done (by kernel_rfl) ?_ _;have HP:Hid (∀v,zGv B W sb wb lb xs d tv fv its2 fs2 (.returned v) w3):=fun v=>⟨⟨v,rfl⟩,tv',fv',cls',hs3,(Upd.of_below hbW2).trans hu3 (fun _ _ g=>g)⟩
 clear hS0 hS2 hS3 hs3 hu3 hb2 hbW2;go_wp2
 go_end0
 exact HP.out _
end
section
open Go.RowKit Nums Fm Pk Fz Ed Lv
theorem zPv{base:Int}{D:List (List En)}{b:List St}(hI:Fm.Inv D b)(hR:Rests base D){n:Nat}{s:St}(hn:b[n]?=some s){xs:List Int}{d:Nat}(hx:xs.length≤24){head:List Int}{wt:Int}(ht:Tells base head wt (exp D s))(its:List It):
 (∀j∈push xs d head wt s.arcs,ItOk base D b j)∧hits xs d (udF head wt s)++hits xs d (stE D (its++push xs d head wt s.arcs))=hits xs d (ud head wt (exp D s))++hits xs d (stE D its) ∧
 (hits xs d (udF head wt s)).length+(stE D (its++push xs d head wt s.arcs)).length≤(exp D s).length+(stE D its).length:=by
 refine⟨fun j hj=>?_,?_,?_⟩
 · unfold push at hj
   obtain⟨a,ha,rfl⟩:=List.mem_map.1 hj;have ha2:a∈s.arcs:=List.mem_reverse.1 (List.mem_filter.1 ha).1;obtain⟨h1,h2,h3⟩:=Tells.arc hI hR hn ht ha2;obtain⟨f1,f2,f3,f4⟩:=zDi hI hR hn a ha2;have hl:=(List.getElem?_eq_some_iff.1 hn).1;exact⟨by show a.to<b.length;omega,h1,h2,ht.lo,f2,h3⟩
 · rw[zUh hx,zPw,zCp,List.append_assoc]
 · have h1:=hits_len xs d (udF head wt s)
   have h2:=zQe D xs d head wt s.arcs;have h3:=congrArg List.length (zPw D s head wt);rw[zHn,List.length_append]at h3;rw[zJj,List.length_append];omega
theorem zNm{base:Int}{D:List (List En)}{b:List St}(hI:Fm.Inv D b)(hR:Rests base D){n:Nat}{s:St}(hn:b[n]?=some s):s.arcs.length≤4096:=by
 obtain⟨h1,_,h3⟩:=hI.row n s hn;have h4:=hR.few _ (List.mem_of_getElem? h1);rw[zId]at h4;have h5:∀l:List Arc,(∀a∈l,a.to<D.length)→l.length≤(l.map fun a=>(D[a.to]?.getD []).length).sum:=by
  intro l
  induction l with
  |nil=>intro _;simp
  |cons a r ih=>
   intro h;(have h6:=ih fun x hx=>h x (by simp[hx]));have h7:=h a (by simp);have h8:1≤(D[a.to]?.getD []).length:=by
    rw[List.getElem?_eq_getElem h7,Option.getD_some];exact List.length_pos_iff.2 (hR.ne _ (List.getElem_mem h7))
   simp only[List.length_cons,List.map_cons,List.sum_cons];omega
 have h9:=h5 s.arcs h3.to;omega
structure ALp(w0:World)(B sb wb lb:Nat)(xs:List Int)(d:Nat)(base:Int)(D:List (List En))(b:List St)(l:List Pr)(its:List It)(fs:List Mt)(tv fv:Value)(cls:List Value)(W:World):Prop where
 sr:SrAt (fun _=>True) B W sb wb lb xs d tv fv cls its fs
 bel:Below w0.heap.size w0 W
 ok:∀i∈its,ItOk base D b i
 hit:fs++hits xs d (stE D its)=zBe xs d l
 few:fs.length+(stE D its).length≤l.length
def AllSays(w w':World)(l:List Pr)(word:List UInt8)(e:Int)(v:Value)(c:Int):Prop:=
 Below w.heap.size w w'∧((Go.Proofs.YtobjpljdgieklaaGreatDoor.rightB word e=false∧v = .slice none 0 0∧c=110)∨(Go.Proofs.YtobjpljdgieklaaGreatDoor.rightB word e=true∧c=0∧∃xs d,rs word=some xs∧e=(d:Nat)∧xs.length≤24∧d≤3∧GOwn 74 3 w.heap.size w' v ((zBe xs d l).map cellsM)))
theorem zMa:zAv []={ data:=#[] }:=by decide +kernel
theorem zJg{w0:World}{wb:Nat}{l:List Pr}(h:WkOn w0 wb l){k:Nat}{s:St}(hk:(zAl l).2[k]?=some s):zHl w0 wb (k:Int) s:=fun V hV=>by
 refine(zXs V wb l (h.below hV) k s hk).mono ?_;rintro e w' ⟨ad,cap,rfl,h1,h2,h3⟩;exact⟨ad,cap,true,rfl,h1,h2,h3⟩
theorem zRx{w0:World}{wb:Nat}{l:List Pr}(h:WkOn w0 wb l):zHl w0 wb (-1) ⟨false,0,[]⟩:=fun V hV=>by
 refine(State_no V wb l (h.below hV) (-1) (by omega)).mono ?_;rintro e w' ⟨rfl,h1⟩;refine⟨none,0,false,rfl,⟨⟨none,0,rfl,fun h=>absurd h (by simp)⟩,fun a ha=>(by cases ha),by simp⟩,fun g hg=>(by cases hg),h1⟩
theorem zTy{α:Type}{l:List α}{n:Nat}(h:l.length=n+1):∃r x,l=r++[x]:=by
 have:l≠[]:=fun e=>by rw[e]at h;cases h
 exact⟨l.dropLast,l.getLast this,(List.dropLast_concat_getLast this).symm⟩
set_option maxHeartbeats 4000000 in
theorem All_any(w:World)(wb:Nat)(l:List Pr)(hon:WkOn w wb l)(word:ByteArray)(e:Int)(hm:word.size≤9223372036854775807):
 Calls Tryz.prog 46 #[.pointer (some ⟨wb,0,none⟩),.string word,.int .i64 e] w fun x w'=>∃v c,x = .returned (.tuple #[v,.int .i64 c])∧AllSays w w' l word.data.toList e v c:=by
 have HNEW:Hid (Calls Tryz.prog 73 #[.string word,.int .i64 e] w fun x w'=>∃v c,x = .returned (.tuple #[v,.int .i64 c])∧zX0 w w' word.data.toList e v c):=New_any word e w hon.tabs hm;have HON:Hid (WkOn w wb l):=hon;clear hon;go_enter Tryz.func46,Tryz.ntmps46;go_upto_region 2 with(go_at_call 73;refine HNEW.out.mono ?_;rintro x w1 ⟨v,c,rfl,hb1,hcase⟩)
 rcases hcase with⟨hr,rfl,rfl⟩|⟨hr,rfl,p,xs,d,rfl,hp,hx,hd,hl1⟩
 · have HR:Hid (AllSays w w1 l word.data.toList e (.slice none 0 0) 110):=⟨hb1,.inl ⟨hr,rfl,rfl⟩⟩
   clear hr hb1;go_wp2;go_ret2;exact⟨_,_,rfl,HR.out⟩
 · have HRT:Hid (∀v w',Below w.heap.size w w'→GOwn 74 3 w.heap.size w' v ((zBe xs d l).map cellsM)→AllSays w w' l word.data.toList e v 0):=fun v w' g1 g2=>⟨g1,.inr ⟨hr,rfl,xs,d,hx,hd,hl1.len,hl1.few,g2⟩⟩
   have HL1:Hid (LevAt w1 p xs d):=hl1;have HB1:Hid (Below w.heap.size w w1):=hb1;have hon1:=HON.out.below hb1;have HON1:Hid (WkOn w1 wb l):=hon1;obtain⟨D,hMW,hI,hWk⟩:=hon1.at';have hfew:=(zAm hon1.ok).2.2;obtain⟨b,hbe⟩:∃b,(zAl l).2=b:=⟨_,rfl⟩;obtain⟨base,hbase⟩:∃base,(zAl l).1=base:=⟨_,rfl⟩;rw[hbe,hbase]at hMW hWk;rw[hbe]at hI;have HMW:Hid (l≠[]→MW l base b D):=hMW;have HI:Hid (Fm.Inv D b):=hI;have HBE:Hid ((zAl l).2=b):=hbe;obtain⟨bl,hbl⟩:∃bl,b.length=bl:=⟨_,rfl⟩;have HRO:Hid (∀V,Below w1.heap.size w1 V→Calls Tryz.prog 70 #[.pointer (some ⟨wb,0,none⟩)] V fun e w'=>e = .returned (.int .i64 ((bl:Int)-1))∧w'=V):=fun V hV=>by
    have:=zHk _ V wb base _ _ (hWk.below hV);rw[List.length_map,hbl]at this;exact this
   (have HBA:Hid (∀V,Below w1.heap.size w1 V→Calls Tryz.prog 75 #[.pointer (some ⟨wb,0,none⟩)] V fun e w'=>e = .returned (.int .i64 base)∧w'=V):=fun V hV=>Base_any _ V wb base _ _ (hWk.below hV));have HSA:Hid (∀V,Below w1.heap.size w1 V→Calls Tryz.prog 76 #[.pointer (some ⟨p,0,none⟩)] V fun e w'=>e = .returned (rV (rowL xs d []))∧Below V.heap.size V w'):=fun V hV=>by
    have:=zXt p xs d V (HL1.out.below hV);rw[zTu]at this;exact this
   obtain⟨sb,hsb⟩:∃sb,w1.heap.size=sb:=⟨_,rfl⟩;obtain⟨W2,hW2⟩:∃W2,w1.alloc (.cells #[.pointer (some ⟨wb,0,none⟩),.pointer (some ⟨p,0,none⟩),.slice none 0 0,.slice none 0 0] 134)=W2:=⟨_,rfl⟩;(have hb2:Below w1.heap.size w1 W2:=by rw[←hW2];exact(Below.refl _ w1).alloc (Nat.le_refl _) _);have hs2:SrAt (fun _=>True) w1.heap.size W2 sb wb p xs d (.slice none 0 0) (.slice none 0 0) [] [] []:=⟨trivial,by omega,by rw[←hW2,←hsb];exact zBk _ _,GOwn.nil _ _ _ _,fun g hg=>(by cases hg),GOwn.nil _ _ _ _,fun g hg=>(by cases hg),rfl,fun j c i hc _=>(by simp at hc)⟩;have HB2:Hid (Below w1.heap.size w1 W2):=hb2;have HS2:Hid (SrAt (fun _=>True) w1.heap.size W2 sb wb p xs d (.slice none 0 0) (.slice none 0 0) [] [] []):=hs2;have HVIS:Hid (∀V,Below W2.heap.size W2 V→Calls Tryz.prog 74 #[.pointer (some ⟨sb,0,none⟩),.int .i64 ((bl:Int)-1),.string { data:=#[] },.int .i64 base,rV (rowL xs d [])] V fun x V'=>(∃v,x = .returned v)∧∃its fs tv fv cls,ALp w1 w1.heap.size sb wb p xs d base D b l its fs tv fv cls V'):=fun V hV=>by
    have hbV:Below w1.heap.size w1 V:=HB2.out.trans (hV.mono HB2.out.size);have hsV:=HS2.out.below hV;by_cases hl0:l=[]
    · have hb0:b=[]:=by rw[←HBE.out,hl0];rfl
      (have hbl0:bl=0:=by rw[←hbl,hb0];rfl);rw[hbl0,←zMa,show((0:Nat):Int)-1 = -1 from rfl];refine(zE5 w1 w1.heap.size V sb wb p xs d _ _ [] [] [] (-1) ⟨false,0,[]⟩ [] base (Nat.le_refl _) hbV HL1.out hsV (zRx HON1.out) (fun h=>by cases h) (by simp) (by simp)).mono ?_;rintro x V' ⟨hv,tv',fv',cls',h1,h2⟩;refine⟨hv,_,_,tv',fv',cls',h1,hbV.trans (h2.below hbV.size fun k hk=>SrF.lo hsV hk),fun i hi=>?_,?_,?_⟩
      · simp[push]at hi
      · rw[hl0];rfl
      · simp[push,stE,udF,hits]
    · obtain⟨M⟩:Nonempty (MW l base b D):=⟨HMW.out hl0⟩
      have hbp:=List.length_pos_iff.2 M.ne;obtain⟨s,hs⟩:∃s,b[b.length-1]?=some s:=⟨_,List.getElem?_eq_getElem (by omega)⟩;have hroot:exp D s=zAs (ents l):=Option.some.inj ((HI.out.row _ s hs).1.symm.trans M.root);(have htl:Tells base [] base (exp D s):=by rw[hroot];exact M.tells);(have hcast:(bl:Int)-1=((b.length-1:Nat):Int):=by omega);obtain⟨g1,g2,g3⟩:=zPv HI.out M.rst hs HL1.out.len htl (d:=d) [];(have hent:hits xs d (ud [] base (exp D s))=zBe xs d l:=by rw[hroot,M.top];exact zV4 (zC1 HON1.out.ok).wd xs d);have hlen:(exp D s).length=l.length:=by
       have:=congrArg List.length M.top;rw[zHn]at this;rw[hroot,this];simp[ents]
      have hw:s.final=true→0≤base∧0≤s.out∧base+s.out≤1048576:=fun hfin=>by
       have h2:=htl.wt ([],s.out) (zQ8 hfin);have h3:=M.rst.nn _ (List.mem_of_getElem? M.root) ([],s.out) (by rw[←hroot];exact zQ8 hfin);have h4:=M.rst.lo;simp only at h2 h3;omega
      have hsm:=zNm HI.out M.rst hs;rw[hcast,←zMa];refine(zE5 w1 w1.heap.size V sb wb p xs d _ _ [] [] [] _ s [] base (Nat.le_refl _) hbV HL1.out hsV (zJg HON1.out (by rw[HBE.out];exact hs)) hw (by simp) (by simp;omega)).mono ?_;rintro x V' ⟨hv,tv',fv',cls',h1,h2⟩;refine⟨hv,_,_,tv',fv',cls',h1,hbV.trans (h2.below hbV.size fun k hk=>SrF.lo hsV hk),g1,?_,?_⟩
      · simp only[List.nil_append]at g2 ⊢
        rw[g2,hent];simp[stE,hits]
      · simp only[List.nil_append]at g3 ⊢
        rw[hlen]at g3;have h0:(stE D []).length=0:=rfl;omega
   have HSB:Hid (w1.heap.size=sb):=hsb;have HW2:Hid (w1.alloc (.cells #[.pointer (some ⟨wb,0,none⟩),.pointer (some ⟨p,0,none⟩),.slice none 0 0,.slice none 0 0] 134)=W2):=hW2;clear hr hp hx hd hl1 hb1 hon1 hMW hI hWk hbe hbase hbl hsb hW2 hb2 hs2;(go_upto_region 5 with fail);rw[HW2.out,HSB.out];clear HW2 HSB
   go_wp2_with (first
    |(go_at_call 70;refine(HRO.out _ HB2.out).mono ?_;rintro x wr ⟨rfl,hwr⟩;rw[hwr];clear hwr wr)
    |(go_at_call 75;refine(HBA.out _ HB2.out).mono ?_;rintro x wr ⟨rfl,hwr⟩;rw[hwr];clear hwr wr)
    |(go_at_call 76;refine(HSA.out _ HB2.out).mono ?_;rintro x w3 ⟨rfl,hb3⟩)
    |(go_at_call 74;refine(HVIS.out _ hb3).mono ?_;rintro x w4 ⟨⟨v,rfl⟩,its0,fs0,tv0,fv0,cls0,hA0⟩))
   have HA0:Hid (ALp w1 w1.heap.size sb wb p xs d base D b l its0 fs0 tv0 fv0 cls0 w4):=hA0;clear hA0 hb3;obtain⟨M,hM⟩:∃M,stM D its0=M:=⟨_,rfl⟩
   go_loopg [11,12] M (fun gm _ _ wr=>∃its fs tv fv cls,stM D its≤gm∧Hid (ALp w1 w1.heap.size sb wb p xs d base D b l its fs tv fv cls wr))
   case atStart=>exact⟨its0,fs0,tv0,fv0,cls0,by omega,HA0⟩
   case round=>
    obtain⟨its,fs,tv,fv,cls,hgm,HA⟩:=hrel;have hlen:=HA.out.sr.len;obtain⟨td,tc,htv,_⟩:=GOwn.shape HA.out.sr.todo
    rw[List.length_map]at htv;obtain⟨y0,y1,y2,y3,yf⟩:=HA.out.sr.facts;have hf2:=yf 2;by_cases hz:its.length=0
    · have hits0:its=[]:=List.length_eq_zero_iff.1 hz
      (have hcl:cls.length=0:=by omega);rw[hcl]at htv;rw[htv]at y2;obtain⟨fd,fc,hfv,_⟩:=GOwn.shape HA.out.sr.found;rw[List.length_map]at hfv;have HFIN:Hid (AllSays w wr l word.data.toList e fv 0):=by
       refine HRT.out fv wr (HB1.out.trans (HA.out.bel.mono HB1.out.size)) ?_;have h1:=HA.out.hit;rw[hits0]at h1;(have h2:fs=zBe xs d l:=by rw[←h1];simp[stE,hits]);rw[←h2];exact GOwn.mono HA.out.sr.found HB1.out.size
      obtain⟨fl,hfl⟩:∃fl,fs.length=fl:=⟨_,rfl⟩;rw[hfl]at hfv;rw[hfv]at y3 HFIN;clear hgm hlen HA y0 y1 yf hf2 hz hits0 hcl htv hfv hfl;go_wp2;go_ret2;exact⟨_,_,rfl,HFIN.out⟩
    · obtain⟨n,hn⟩:∃n,its.length=n+1:=⟨its.length-1,by omega⟩
      obtain⟨its',i,rfl⟩:=zTy hn;obtain⟨cls',c,rfl⟩:=zTy (n:=n) (l:=cls) (by omega);(have hnl:its'.length=n:=by simpa using hn);(have hcn:cls'.length=n:=by simp at hlen hn;omega);obtain⟨g,cap,hv,hcap,hcell,hclo,hpop,hupop⟩:=HA.out.sr.pop;obtain⟨q0,q1,q2,q3,q4,rfl,_,p0,p1,p2,p3,p4⟩:=hclo.ex;rw[hcn]at hv hcap hcell hpop hupop;rw[hv]at y2;obtain⟨m1,hm1⟩:∃m1,n+1=m1:=⟨_,rfl⟩;rw[hm1]at y2 hcap;obtain⟨W6,hW6⟩:∃W6,wr.setCell ⟨sb,2,none⟩ (.slice (some ⟨g,0,none⟩) n cap)=W6:=⟨_,rfl⟩;rw[hW6]at hpop hupop;have hok:=HA.out.ok i (by simp);have hlne:l≠[]:=fun h0=>by
       have h1:=hok.tol;rw[←HBE.out,h0]at h1;exact absurd h1 (by show ¬i.to<0;omega)
      have MM:=HMW.out hlne;obtain⟨s,hs⟩:∃s,b[i.to]?=some s:=⟨_,List.getElem?_eq_getElem hok.tol⟩;(have hDi:D[i.to]?.getD []=exp D s:=by rw[(HI.out.row _ s hs).1];rfl);obtain⟨k1,k2,k3⟩:=zPv HI.out MM.rst hs HL1.out.len (by rw[←hDi];exact hok.tl) (d:=d) its';have hits':=HA.out.hit;rw[zP4,zCp]at hits';have hfew':=HA.out.few;rw[zP4,List.length_append]at hfew';(have hitE:itE D i=ud (i.head++[i.lab]) (i.wt+i.out) (exp D s):=by unfold itE;rw[hDi]);rw[hitE]at hits' hfew';rw[zHn]at hfew';(have hlt1:its'.length≤(stE D its').length:=zP3 MM.rst.ne fun j hj=>by rw[HI.out.len];exact(HA.out.ok j (by simp[hj])).tol);have hsm:=zNm HI.out MM.rst hs;have hmeas:=zUg HI.out hs xs d (i.head++[i.lab]) (i.wt+i.out);have hS0:S0c q0 q1 q2 q3 q4 sb i.lab i.out i.to (zAv i.head) i.wt (rowL xs d (i.head++[i.lab])) W6:=S0c.sfe ⟨p0,p1,p2,p3,p4⟩ (HA.out.sr.sfe hupop);have hb6:Below w1.heap.size w1 W6:=HA.out.bel.trans (hupop.below HA.out.bel.size fun k hk=>SrF.lo HA.out.sr hk);have HCLO:Hid (Calls Tryz.prog 117 #[.pointer (some ⟨q0,0,none⟩),.pointer (some ⟨q1,0,none⟩),.pointer (some ⟨q2,0,none⟩),.pointer (some ⟨q3,0,none⟩),.pointer (some ⟨q4,0,none⟩)] W6 fun x V'=>(∃v,x = .returned v)∧∃its fs tv fv cls,Fz.stM D its<gk∧ALp w1 w1.heap.size sb wb p xs d base D b l its fs tv fv cls V'):=by
       refine(clo_any w1 w1.heap.size W6 sb wb p xs d _ _ cls' its' fs s i q0 q1 q2 q3 q4 HI.out MM.rst hs (Nat.le_refl _) hb6 HON1.out.tabs HL1.out hpop (zJg HON1.out (by rw[HBE.out];exact hs)) hok hS0 (by omega) (by omega)).mono ?_;rintro x V' ⟨hv,tv',fv',cls2,h1,h2⟩;refine⟨hv,_,_,tv',fv',cls2,?_,h1,hb6.trans (h2.below hb6.size fun k hk=>SrF.lo hpop hk),fun j hj=>?_,?_,?_⟩
       · rw[zJi]
         (have h3:stM D (its'++[i])=stM D its'+itM D i:=by rw[zJi];simp[Fz.stM]);rw[h3]at hgm;have h4:itM D i=wgt (D[i.to]?.getD []):=rfl;omega
       · rcases List.mem_append.1 hj with hj|hj
         · exact HA.out.ok j (by simp[hj])
         · exact k1 j hj
       · rw[List.append_assoc,k2,hits']
       · rw[List.length_append]
         omega
      (have hw1:IntKind.i64.wrap ((m1:Int)-1)=(n:Int):=by rw[IntKind.wrap_i64];omega);(have hpos:(0:Int)<(m1:Int):=by omega);(have hnm:(n:Int)<(m1:Int):=by omega);(have hnc:(n:Int)≤(cap:Int):=by omega);have HW6:Hid (wr.setCell ⟨sb,2,none⟩ (.slice (some ⟨g,0,none⟩) n cap)=W6):=hW6;clear hgm hlen HA y0 y1 y3 yf hz hn hnl hcn hv hclo hpop hupop p0 p1 p2 p3 p4 hok hlne MM hs hDi k1 k2 k3 hits' hfew' hitE hlt1 hsm hmeas hS0 hb6 hW6 htv hm1;go_wp2_with (go_at_call 117;rw[HW6.out];refine HCLO.out.mono ?_;rintro x V' ⟨⟨v,rfl⟩,its2,fs2,tv2,fv2,cls2,hlt,hA2⟩);go_roundg (stM D its2);(case measure=>omega);case rel=>exact⟨its2,fs2,tv2,fv2,cls2,Nat.le_refl _,hA2⟩
end
section
open Go.RowKit Go.Shelf Go.Lib Nums Fm Pk Pm Fz Ed Lv
def MRow(w:World)(v:Value)(l:List Mt):Prop:=GRow w.heap.size 3 w v (l.map cellsM)
theorem MRow.below{w w':World}{v:Value}{l:List Mt}(h:MRow w v l)(hb:Below w.heap.size w w'):MRow w' v l:=(GRow.below h hb).mono hb.size
theorem MRow.form{w:World}{v:Value}{l:List Mt}(h:MRow w v l):∃ad cap,v = .slice ad l.length cap:=by
 obtain⟨ad,cap,e⟩:=GRow.shape h;exact⟨ad,cap,by rw[e,List.length_map]⟩
theorem MRow.at{w:World}{ad:Option Addr}{n cap:Nat}{l:List Mt}(h:MRow w (.slice ad n cap) l)(h0:0<l.length):∃g off,ad=some ⟨g,off,none⟩∧g<w.heap.size∧∀k x,l[k]?=some x→w.cell? ⟨g,off+k*3,none⟩=some (.string x.1)∧w.cell? ⟨g,off+k*3+1,none⟩=some (.int .i64 x.2.1)∧w.cell? ⟨g,off+k*3+2,none⟩=some (.int .i64 x.2.2):=by
 obtain⟨ad',cap',hv,hc⟩:=h.ex;simp only[Value.slice.injEq]at hv;obtain⟨g,off,rfl,hg,hx⟩:=hc (by rw[List.length_map];omega);refine⟨g,off,hv.1,hg,fun k x hk=>?_⟩;have e:(l.map cellsM)[k]?=some (cellsM x):=by rw[List.getElem?_map,hk];rfl
 exact⟨hx k 0 _ _ e rfl,hx k 1 _ _ e rfl,hx k 2 _ _ e rfl⟩
set_option maxHeartbeats 4000000 in
theorem same12_any(w:World)(u v:Value)(l:List Mt)(h1:MRow w u l)(h2:MRow w v l)(hl:l.length<549755813888):
 Calls Tryz.prog 24 #[u,v] w fun e w'=>e = .returned (.bool true)∧∃q,w'=w.drewN q:=by
 obtain⟨ad1,cap1,rfl⟩:=h1.form;obtain⟨ad2,cap2,rfl⟩:=h2.form;have HR1:Hid (MRow w (.slice ad1 l.length cap1) l):=h1;have HR2:Hid (MRow w (.slice ad2 l.length cap2) l):=h2;obtain⟨n1,hn1⟩:∃n,l.length=n:=⟨_,rfl⟩;have HN:Hid (l.length=n1):=hn1;rw[hn1]at HR1 HR2 hl;rw[hn1];clear h1 h2 hn1;have hneb:((n1:Int)==(n1:Int))=true:=beq_self_eq_true _;go_enter Tryz.func24,Tryz.ntmps24;go_wp2
 go_loopg [5] n1 (fun g s5 wr=>∃(k q:Nat),s5 = .int .i64 k∧k≤n1∧n1-k≤g∧wr=w.drewN q)
 case atStart=>exact⟨0,0,rfl,Nat.zero_le _,by omega,rfl⟩
 case round=>
  obtain⟨k,q,rfl,hk,hg,hwr⟩:=hrel;by_cases hlt:k<n1
  · have hltz:(k:Int)<(n1:Int):=by omega
    obtain⟨x,hx⟩:∃x,l[k]?=some x:=⟨l[k]'(by have:=HN.out;omega),List.getElem?_eq_getElem _⟩;obtain⟨b1,off1,rfl,hb1,hc1⟩:=HR1.out.at (by have:=HN.out;omega);obtain⟨b2,off2,rfl,hb2,hc2⟩:=HR2.out.at (by have:=HN.out;omega);obtain⟨c0,c1,c2⟩:=hc1 k x hx;obtain⟨d0,d1,d2⟩:=hc2 k x hx;(have c0':wr.cell? ⟨b1,off1+k*3,none⟩=some (.string x.1):=by rw[hwr];exact c0);(have c1':wr.cell? ⟨b1,off1+k*3+1,none⟩=some (.int .i64 x.2.1):=by rw[hwr];exact c1);(have c2':wr.cell? ⟨b1,off1+k*3+2,none⟩=some (.int .i64 x.2.2):=by rw[hwr];exact c2);(have d0':wr.cell? ⟨b2,off2+k*3,none⟩=some (.string x.1):=by rw[hwr];exact d0);(have d1':wr.cell? ⟨b2,off2+k*3+1,none⟩=some (.int .i64 x.2.1):=by rw[hwr];exact d1);(have d2':wr.cell? ⟨b2,off2+k*3+2,none⟩=some (.int .i64 x.2.2):=by rw[hwr];exact d2);have HW:Hid (wr=w.drewN q):=hwr;(have s1:(x.1.toList==x.1.toList)=true:=by simp);(have s2:(x.2.1==x.2.1)=true:=by simp);(have s3:(x.2.2==x.2.2)=true:=by simp);clear c0 c1 c2 d0 d1 d2 hc1 hc2 hx hwr;go_wp2_with fail;go_quiet (fail);go_wp2_with fail;go_roundg (n1-(k+1));(case measure=>omega);case rel=>exact⟨k+1,_,by go_num,by omega,Nat.le_refl _,by rw[HW.out,World.drewN_drewN]⟩
  · have hkn:k=n1:=by omega
    (have hnlt:¬(k:Int)<(n1:Int):=by omega);clear hk;go_wp2_with fail;go_ret;exact⟨rfl,q,rfl⟩
end
