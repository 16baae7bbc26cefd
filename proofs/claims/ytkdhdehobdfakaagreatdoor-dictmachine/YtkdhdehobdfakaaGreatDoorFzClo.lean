import Derived.Test.YtkdhdehobdfakaaGreatDoorFzVis
namespace Go.Proofs.YtkdhdehobdfakaaGreatDoor
open Go.RowKit Nums Fm Pk Fz Ed Lv
set_option maxRecDepth 100000
attribute [local go_sem ↓] zA8 zCl zAz zA7
attribute [local go_sem] zEp
structure S0c(b0 b1 b2 b3 b4 sb:Nat)(la o:Int)(tnn:Nat)(tx:ByteArray)(wt:Int)(row:List Nat)(W:World):Prop where
 c0:W.heap[b0]?=some (.cells #[.pointer (some ⟨sb,0,none⟩)] 166 (0,0))
 c1:W.heap[b1]?=some (.cells #[.int .i32 la,.int .i64 o,.int .i64 (tnn:Int)] 89 (0,0))
 c2:W.heap[b2]?=some (.cells #[.string tx] 9 (0,0))
 c3:W.heap[b3]?=some (.cells #[.int .i64 wt] 3 (0,0))
 c4:RAt W b4 row
variable {b0 b1 b2 b3 b4 sb tnn:Nat} {la o wt:Int} {tx:ByteArray} {row:List Nat} {W W':World}
theorem S0c.facts(h:S0c b0 b1 b2 b3 b4 sb la o tnn tx wt row W):W.cell? ⟨b0,0,none⟩=some (.pointer (some ⟨sb,0,none⟩))∧W.cell? ⟨b1,0,none⟩=some (.int .i32 la)∧W.cell? ⟨b1,1,none⟩=some (.int .i64 o)∧W.cell? ⟨b1,2,none⟩=some (.int .i64 (tnn:Int))∧W.cell? ⟨b2,0,none⟩=some (.string tx)∧W.cell? ⟨b3,0,none⟩=some (.int .i64 wt):=
 ⟨by simp[World.cell?,h.c0],by simp[World.cell?,h.c1],by simp[World.cell?,h.c1],by simp[World.cell?,h.c1],by simp[World.cell?,h.c2],by simp[World.cell?,h.c3]⟩
theorem S0c.sfe(h:S0c b0 b1 b2 b3 b4 sb la o tnn tx wt row W)(hs:Sfe (fun _=>True) W W'):S0c b0 b1 b2 b3 b4 sb la o tnn tx wt row W':=
 ⟨(hs _ _ _ trivial h.c0 (by decide) (by decide) (by decide)).trans h.c0,(hs _ _ _ trivial h.c1 (by decide) (by decide) (by decide)).trans h.c1,(hs _ _ _ trivial h.c2 (by decide) (by decide) (by decide)).trans h.c2,(hs _ _ _ trivial h.c3 (by decide) (by decide) (by decide)).trans h.c3,(hs _ _ _ trivial h.c4 (by decide) (by decide) (by decide)).trans h.c4⟩
structure ItOk(base:Int)(D:List (List En))(b:List St)(i:It):Prop where
 tol:i.to<b.length
 tl:Tells base (i.head++[i.lab]) (i.wt+i.out) (D[i.to]?.getD [])
 hl:i.head.length<24
 wt:0≤i.wt∧0≤i.out∧i.wt+i.out≤1048576
theorem zRt{D:List (List En)}{s:St}(h:s.final=true):([],s.out)∈exp D s:=by
 unfold exp fins;rw[if_pos h];simp
set_option maxHeartbeats 2000000 in
theorem clo_any(w0:World)(B:Nat)(W:World)(sb wb lb:Nat)(xs:List Int)(d:Nat)(tv fv:Value)(cls:List Value)(its:List It)(fs:List Mt)(s:St)(i:It)(b0 b1 b2 b3 b4:Nat){base:Int}{D:List (List En)}{b:List St}(hI:Fm.Inv D b)(hR:Rests base D)(hb:b[i.to]?=some s)
 (hB0:w0.heap.size≤B) (hbel:Below w0.heap.size w0 W) (hT:Tabs w0) (hL:LevAt w0 lb xs d) (h:SrAt (fun _=>True) B W sb wb lb xs d tv fv cls its fs) (hst:zHt w0 wb (i.to:Int) s) (hok:ItOk base D b i)
 (hc:S0c b0 b1 b2 b3 b4 sb i.lab i.out i.to (zAw i.head) i.wt (rowL xs d (i.head++[i.lab])) W) (hf:fs.length<1000000000) (hi:its.length+s.arcs.length<1000000000):
 Calls Tryz.prog 96 #[.pointer (some ⟨b0,0,none⟩),.pointer (some ⟨b1,0,none⟩),.pointer (some ⟨b2,0,none⟩),.pointer (some ⟨b3,0,none⟩),.pointer (some ⟨b4,0,none⟩)] W (zG0 B W sb wb lb xs d tv fv (its++push xs d (i.head++[i.lab]) (i.wt+i.out) s.arcs) (fs++hits xs d (udF (i.head++[i.lab]) (i.wt+i.out) s))):=by
 have hw:s.final=true→0≤i.wt+i.out∧0≤s.out∧i.wt+i.out+s.out≤1048576:=fun hfin=>by
  have h1:=(hI.row _ s hb).1;have h2:=hok.tl.wt ([],s.out) (by rw[h1];exact zRt hfin);have h3:=hR.nn _ (List.mem_of_getElem? h1) _ (zRt hfin);have h4:=hok.wt;simp only at h2 h3;omega
 have hall:allR (i.head++[i.lab])=true:=zHu hok.tl.hr;have hall1:allR i.head=true:=zHu fun c hc=>hok.tl.hr c (List.mem_append.2 (.inl hc))
 have hall2:allR [i.lab]=true:=zHu fun c hc=>hok.tl.hr c (List.mem_append.2 (.inr hc))
 have HBH:Hid (∀V,Below W.heap.size W V→Calls Tryz.prog 97 #[.string (zAw i.head),.int .i32 i.lab] V fun e w'=>e = .returned (.string (zAw (i.head++[i.lab])))∧Below V.heap.size V w'):=fun V hV=>zNk i.head i.lab V (hT.below (hbel.trans (hV.mono hbel.size))) hall1 hall2 (by have:=hok.hl;omega)
 have HVI:Hid (∀V,Below W.heap.size W V→Calls Tryz.prog 60 #[.pointer (some ⟨sb,0,none⟩),.int .i64 (i.to:Int),.string (zAw (i.head++[i.lab])),.int .i64 (i.wt+i.out),rV (rowL xs d (i.head++[i.lab]))] V (zG0 B V sb wb lb xs d tv fv (its++push xs d (i.head++[i.lab]) (i.wt+i.out) s.arcs) (fs++hits xs d (udF (i.head++[i.lab]) (i.wt+i.out) s)))):=fun V hV=>zFe w0 B V sb wb lb xs d tv fv cls its fs (i.to:Int) s (i.head++[i.lab]) (i.wt+i.out) hB0 (hbel.trans (hV.mono hbel.size)) hL (h.below hV) hst hw hf hi
 have hwt:=hok.wt;have hwr:IntKind.i64.wrap (i.wt+i.out)=i.wt+i.out:=by rw[IntKind.wrap_i64];omega
 have HH:Hid (SrAt (fun _=>True) B W sb wb lb xs d tv fv cls its fs):=h;obtain⟨its2,hits2⟩:∃x,its++push xs d (i.head++[i.lab]) (i.wt+i.out) s.arcs=x:=⟨_,rfl⟩;obtain⟨fs2,hfs2⟩:∃x,fs++hits xs d (udF (i.head++[i.lab]) (i.wt+i.out) s)=x:=⟨_,rfl⟩;rw[hits2,hfs2]at HVI ⊢;obtain⟨tx,htx⟩:∃tx,zAw i.head=tx:=⟨_,rfl⟩;obtain⟨ty,hty⟩:∃ty,zAw (i.head++[i.lab])=ty:=⟨_,rfl⟩;obtain⟨row,hrow⟩:∃row,rowL xs d (i.head++[i.lab])=row:=⟨_,rfl⟩;have hrl:row.length=25:=by rw[←hrow];exact zBw _ _ _
 obtain⟨sm,hsm⟩:∃sm,i.wt+i.out=sm:=⟨_,rfl⟩;rw[htx,hty]at HBH;rw[hty,hrow,hsm]at HVI;rw[htx,hrow]at hc;rw[hsm]at hwr;obtain⟨tnn,hto⟩:∃tnn,i.to=tnn:=⟨_,rfl⟩;obtain⟨la,hla⟩:∃la,i.lab=la:=⟨_,rfl⟩;obtain⟨o,ho⟩:∃o,i.out=o:=⟨_,rfl⟩;obtain⟨wt,hwte⟩:∃wt,i.wt=wt:=⟨_,rfl⟩;rw[hto,hla,ho,hwte]at hc;rw[hla]at HBH;rw[hto]at HVI;rw[hwte,ho]at hsm;clear hits2 hfs2 htx hty hrow hw hall hall1 hall2 hwt hto hla ho hwte hst hok hf hi h hT hL hbel hB0 hb hI hR;have hS0:S0c b0 b1 b2 b3 b4 sb la o tnn tx wt row W.drew:=hc.sfe (Sfe.of_below (Below.refl _ W).drew);go_enter Tryz.func96,Tryz.ntmps96;go_upto_region 0 with fail
 refine zAh (S:=S0c b0 b1 b2 b3 b4 sb la o tnn tx wt row) 13 rfl zAr hS0 (fun _=>?_);refine tq4 S0c.facts 0 5 1 6 2 7 3 8 ?_;simp only[sZa,sZb,sZc];refine tq4 S0c.facts 4 9 5 10 7 12 8 13 ?_;simp only[sZa,sZb,sZc];refine tq S0c.facts 9 14 ?_;simp only[sZa,sZb,sZc];refine tk (i:=10) (v := .int .i64 sm) 15 rfl rfl (by kernel_rfl) (fun w hSw=>by(clear hSw;go_simp;first|done|exact rfl|(rw[hsm];exact congrArg _ hwr)|simp_all)) ?_;simp only[sZa,sZb,sZc];refine tk (i:=11) (v:=rV row) 16 rfl rfl (by kernel_rfl) (fun w hSw=>by(have h2:=zBl hSw.c4.range hrl;exact(zAz _ (.tmp 4) _ _ _ _ _ _).trans (congrArg (fun z=>Result.andThen z (fun v w'=>Result.ok (Next.value v) w')) h2))) ?_;simp only[sZa,sZb,sZc];refine oc 6 W.drew 11 97 #[.string tx,.int .i32 la] ?_;refine(HBH.out W.drew (Below.refl _ W).drew).mono ?_;rintro e w2 ⟨rfl,hb2⟩;have hbW2:Below W.heap.size W w2:=(Below.refl _ W).drew.trans (hb2.mono (Nat.le_refl _));have hS2:=hS0.sfe (Sfe.of_below hb2);refine⟨_,rfl,hS2,fun _=>?_⟩;simp only[sZa,sZb,sZc];refine oc 12 w2 17 60 #[.pointer (some ⟨sb,0,none⟩),.int .i64 (tnn:Int),.string ty,.int .i64 sm,rV row] ?_;refine(HVI.out w2 hbW2).mono ?_;rintro e w3 ⟨⟨v,rfl⟩,tv',fv',cls',hs3,hu3⟩;have hS3:=hS2.sfe ((HH.out.below hbW2).sfe hu3);refine⟨_,rfl,hS3,fun _=>?_⟩;simp only[sZa,sZb,sZc];refine wpAnyH_done (by kernel_rfl) ?_ _;have HP:Hid (∀v,zG0 B W sb wb lb xs d tv fv its2 fs2 (.returned v) w3):=fun v=>⟨⟨v,rfl⟩,tv',fv',cls',hs3,(Upd.of_below hbW2).trans hu3 (fun _ _ g=>g)⟩
 clear hS0 hS2 hS3 hs3 hu3 hb2 hbW2;go_wp2
 go_end0
 exact HP.out _
