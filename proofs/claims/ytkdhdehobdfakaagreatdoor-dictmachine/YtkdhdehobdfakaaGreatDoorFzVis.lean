import Derived.Test.YtkdhdehobdfakaaGreatDoorJ34
import Derived.Deep.CutRange
namespace Go.Proofs.YtkdhdehobdfakaaGreatDoor
open Go.RowKit Nums Fm Pk Fz Ed Lv
set_option maxRecDepth 100000
attribute [local go_sem] Oper.semAt_some
attribute [local go_sem ↓] zA8 zCl zAz zA7
attribute [local go_sem] zEp
theorem zQd{c:Code}{Q:Exit→Act→World→Prop}{a:Act}{w:World}(h:c.wp Tryz.prog (fun e a w=>(∀x,e ≠ .panic x)∧Q e a w) a w):c.wp Tryz.prog Q a w:=wp_mono h (fun _ _ _ g=>g.2)
theorem zOq(tmps:Array Value)(w:World):∃v,(results Tryz.f60 tmps).run Tryz.prog w = .ok v w:=by
 simp[results,Tryz.results60,go_sem]
structure VB(sb:Nat)(head:ByteArray)(wt:Int)(row:List Nat)(s0 hB gB rB:Nat)(W:World):Prop where
 b0:W.heap[s0]?=some (.cells #[.pointer (some ⟨sb,0,none⟩)] 166 (0,0))
 b1:W.heap[hB]?=some (.cells #[.string head] 9 (0,0))
 b2:W.heap[gB]?=some (.cells #[.int .i64 wt] 3 (0,0))
 b3:RAt W rB row
variable {sb s0 hB gB rB wb lb stb B d:Nat} {head:ByteArray} {wt:Int} {row:List Nat} {W W':World} {K:Nat→Prop} {xs:List Int} {tv fv:Value} {cls:List Value} {its:List It} {fs:List Mt}
theorem VB.start(w:World)(sb:Nat)(head:ByteArray)(wt:Int)(row:List Nat):VB sb head wt row w.heap.size (w.heap.size+1) (w.heap.size+1+1) (w.heap.size+1+1+1) ((((w.alloc (.cells #[.pointer (some ⟨sb,0,none⟩)] 166)).alloc (.cells #[.string head] 9)).alloc (.cells #[.int .i64 wt] 3)).alloc (.cells (rC row) 133)):=by
 refine⟨?_,?_,?_,?_⟩
 · rw[zB8 _ _ (by simp<;>omega),zB8 _ _ (by simp<;>omega),zB8 _ _ (by simp<;>omega)];exact zBm _ _
 · rw[zB8 _ _ (by simp<;>omega),zB8 _ _ (by simp<;>omega)];have:=zBm (w.alloc (.cells #[.pointer (some ⟨sb,0,none⟩)] 166)) (.cells #[.string head] 9);rwa [zBb]at this
 · rw[zB8 _ _ (by simp<;>omega)];have:=zBm ((w.alloc (.cells #[.pointer (some ⟨sb,0,none⟩)] 166)).alloc (.cells #[.string head] 9)) (.cells #[.int .i64 wt] 3);rwa [zBb,zBb]at this
 · have:=RAt.new (((w.alloc (.cells #[.pointer (some ⟨sb,0,none⟩)] 166)).alloc (.cells #[.string head] 9)).alloc (.cells #[.int .i64 wt] 3)) row;rwa [zBb,zBb,zBb]at this
theorem VB.sfe(h:VB sb head wt row s0 hB gB rB W)(hs:Sfe (fun _=>True) W W'):VB sb head wt row s0 hB gB rB W':=
 ⟨(hs _ _ _ trivial h.b0 (by decide) (by decide) (by decide)).trans h.b0,(hs _ _ _ trivial h.b1 (by decide) (by decide) (by decide)).trans h.b1,(hs _ _ _ trivial h.b2 (by decide) (by decide) (by decide)).trans h.b2,(hs _ _ _ trivial h.b3 (by decide) (by decide) (by decide)).trans h.b3⟩
theorem Sfe.of_below(hb:Below W.heap.size W W'):Sfe K W W':=fun b _ _ _ h _ _ _=>hb.block b (Array.getElem?_eq_some_iff.1 h).1
theorem VB.facts(h:VB sb head wt row s0 hB gB rB W):W.cell? ⟨s0,0,none⟩=some (.pointer (some ⟨sb,0,none⟩))∧W.cell? ⟨hB,0,none⟩=some (.string head)∧W.cell? ⟨gB,0,none⟩=some (.int .i64 wt):=
 ⟨by simp[World.cell?,h.b0],by simp[World.cell?,h.b1],by simp[World.cell?,h.b2]⟩
def zHt(w0:World)(wb:Nat)(n:Int)(s:St):Prop:=∀V,Below w0.heap.size w0 V→Calls Tryz.prog 91 #[.pointer (some ⟨wb,0,none⟩),.int .i64 n] V fun e w'=>∃ad cap fl,e = .returned (.tuple #[.agg #[.bool s.final,.int .i64 s.out,.slice ad s.arcs.length cap],.bool fl])∧ArcsAt w'.heap.size w' (.slice ad s.arcs.length cap) (s.arcs.map zAs)∧(∀g,(Value.slice ad s.arcs.length cap).ownBlock=some g→V.heap.size≤g∧g<w'.heap.size)∧Below V.heap.size V w'
def zG0(B:Nat)(W:World)(sb wb lb:Nat)(xs:List Int)(d:Nat)(tv fv:Value)(its:List It)(fs:List Mt)(e:Ending)(W':World):Prop:=
 (∃v,e = .returned v)∧∃tv' fv' cls',SrAt (fun _=>True) B W' sb wb lb xs d tv' fv' cls' its fs∧Upd (SrF sb tv fv) W W'
structure S2v(s0 sb lb rB:Nat)(row:List Nat)(W:World):Prop where
 a:W.cell? ⟨s0,0,none⟩=some (.pointer (some ⟨sb,0,none⟩))
 b:W.cell? ⟨sb,1,none⟩=some (.pointer (some ⟨lb,0,none⟩))
 c:zGs Tryz.prog (.pointer (some ⟨rB,0,none⟩)) W = .ok (rV row) W
theorem S2v.facts(h:S2v s0 sb lb rB row W):W.cell? ⟨s0,0,none⟩=some (.pointer (some ⟨sb,0,none⟩))∧W.cell? ⟨sb,1,none⟩=some (.pointer (some ⟨lb,0,none⟩)):=⟨h.a,h.b⟩
theorem S2v.of(h:VB sb head wt row s0 hB gB rB W)(h2:SrAt K B W sb wb lb xs d tv fv cls its fs)(hr:row.length=25):S2v s0 sb lb rB row W:=⟨h.facts.1,h2.facts.2.1,zBl h.b3.range hr⟩
structure S4v(s0 hB gB sb stb:Nat)(tx:ByteArray)(wt:Int)(fv:Value)(o:Int)(W:World):Prop where
 a:W.cell? ⟨s0,0,none⟩=some (.pointer (some ⟨sb,0,none⟩))
 b:W.cell? ⟨sb,3,none⟩=some fv
 c:W.cell? ⟨hB,0,none⟩=some (.string tx)
 d:W.cell? ⟨gB,0,none⟩=some (.int .i64 wt)
 e:W.cell? ⟨stb,1,none⟩=some (.int .i64 o)
theorem S4v.facts{tx:ByteArray}{o:Int}(h:S4v s0 hB gB sb stb tx wt fv o W):W.cell? ⟨s0,0,none⟩=some (.pointer (some ⟨sb,0,none⟩))∧W.cell? ⟨sb,3,none⟩=some fv∧W.cell? ⟨hB,0,none⟩=some (.string tx)∧W.cell? ⟨gB,0,none⟩=some (.int .i64 wt)∧W.cell? ⟨stb,1,none⟩=some (.int .i64 o):=⟨h.1,h.2,h.3,h.4,h.5⟩
structure S7v2(s0 sb lb rB ab:Nat)(row:List Nat)(la:Int)(W:World):Prop where
 a:W.cell? ⟨s0,0,none⟩=some (.pointer (some ⟨sb,0,none⟩))
 b:W.cell? ⟨sb,1,none⟩=some (.pointer (some ⟨lb,0,none⟩))
 c:zGs Tryz.prog (.pointer (some ⟨rB,0,none⟩)) W = .ok (rV row) W
 e:W.cell? ⟨ab,0,none⟩=some (.int .i32 la)
theorem S7v2.facts{ab:Nat}{c:Int}(h:S7v2 s0 sb lb rB ab row c W):W.cell? ⟨s0,0,none⟩=some (.pointer (some ⟨sb,0,none⟩))∧W.cell? ⟨sb,1,none⟩=some (.pointer (some ⟨lb,0,none⟩))∧W.cell? ⟨ab,0,none⟩=some (.int .i32 c):=⟨h.a,h.b,h.e⟩
structure S9v(s0 sb:Nat)(tv:Value)(W:World):Prop where
 a:W.cell? ⟨s0,0,none⟩=some (.pointer (some ⟨sb,0,none⟩))
 b:W.cell? ⟨sb,2,none⟩=some tv
theorem S9v.facts(h:S9v s0 sb tv W):W.cell? ⟨s0,0,none⟩=some (.pointer (some ⟨sb,0,none⟩))∧W.cell? ⟨sb,2,none⟩=some tv:=⟨h.1,h.2⟩
structure VA(w0:World)(B:Nat)(W:World)(sb wb lb:Nat)(xs:List Int)(d:Nat)(tv fv:Value)(cls:List Value)(its:List It)(fs:List Mt)(tx:ByteArray)(wt:Int)(row:List Nat)(s:St)(s0 hB gB rB stb:Nat)(ad:Option Addr)(cap:Nat)(fv5:Value)(W5:World):Prop where
 bel:Below w0.heap.size w0 W5
 sr:SrAt (fun _=>True) B W5 sb wb lb xs d tv fv5 cls its fs
 upd:Upd (SrF sb tv fv) W W5
 vb:VB sb tx wt row s0 hB gB rB W5
 st:W5.heap[stb]?=some (.cells #[.bool s.final,.int .i64 s.out,.slice ad s.arcs.length cap] 56 (0,0))
 arcs:ArcsAt W5.heap.size W5 (.slice ad s.arcs.length cap) (s.arcs.map zAs)
 own:∀g,(Value.slice ad s.arcs.length cap).ownBlock=some g→¬SrF sb tv fv5 g
 new:∀g,g<W.heap.size→fv.ownBlock≠some g→fv5.ownBlock≠some g
def VX(w0:World)(B:Nat)(W:World)(sb wb lb:Nat)(xs:List Int)(d:Nat)(tv fv:Value)(cls:List Value)(its:List It)(fs5:List Mt)(tx:ByteArray)(wt:Int)(row:List Nat)(s:St)(s0 hB gB rB stb:Nat)(ad:Option Addr)(cap:Nat)(W5:World):Prop:=∃fv5,VA w0 B W sb wb lb xs d tv fv cls its fs5 tx wt row s s0 hB gB rB stb ad cap fv5 W5
set_option maxHeartbeats 4000000 in
theorem zFe(w0:World)(B:Nat)(W:World)(sb wb lb:Nat)(xs:List Int)(d:Nat)(tv fv:Value)(cls:List Value)(its:List It)(fs:List Mt)(n:Int)(s:St)(head:List Int)(wt:Int)
 (hB0:w0.heap.size≤B) (hbel:Below w0.heap.size w0 W) (hL:LevAt w0 lb xs d) (h:SrAt (fun _=>True) B W sb wb lb xs d tv fv cls its fs) (hst:zHt w0 wb n s)
 (hw:s.final=true→0≤wt∧0≤s.out∧wt+s.out≤1048576) (hf:fs.length<1000000000) (hi:its.length+s.arcs.length<1000000000):
 Calls Tryz.prog 60 #[.pointer (some ⟨sb,0,none⟩),.int .i64 n,.string (zAw head),.int .i64 wt,rV (rowL xs d head)] W (zG0 B W sb wb lb xs d tv fv (its++push xs d head wt s.arcs) (fs++hits xs d (udF head wt s))):=by
 obtain⟨R,hR⟩:∃R,zG0 B W sb wb lb xs d tv fv (its++push xs d head wt s.arcs) (fs++hits xs d (udF head wt s))=R:=⟨_,rfl⟩;have HR:Hid (zG0 B W sb wb lb xs d tv fv (its++push xs d head wt s.arcs) (fs++hits xs d (udF head wt s))=R):=hR;rw[hR];clear hR;obtain⟨s0,hs0⟩:∃s0,W.heap.size=s0:=⟨_,rfl⟩;obtain⟨hB,hr1⟩:∃hB,s0+1=hB:=⟨_,rfl⟩;obtain⟨gB,hr2⟩:∃gB,hB+1=gB:=⟨_,rfl⟩;obtain⟨rB,hr3⟩:∃rB,gB+1=rB:=⟨_,rfl⟩;obtain⟨tx,htx⟩:∃tx,zAw head=tx:=⟨_,rfl⟩;have HTX:Hid (zAw head=tx):=htx;rw[htx];obtain⟨W1,hW1⟩:∃W1,((((W.alloc (.cells #[.pointer (some ⟨sb,0,none⟩)] 166)).alloc (.cells #[.string tx] 9)).alloc (.cells #[.int .i64 wt] 3)).alloc (.cells (rC (rowL xs d head)) 133))=W1:=⟨_,rfl⟩;have hv1:VB sb tx wt (rowL xs d head) s0 hB gB rB W1:=by rw[←hW1,←hr3,←hr2,←hr1,←hs0];exact VB.start _ _ _ _ _
 have hbW:Below W.heap.size W W1:=by rw[←hW1];exact((((Below.refl _ W).alloc (Nat.le_refl _) _).alloc (by simp<;>omega) _).alloc (by simp<;>omega) _).alloc (by simp<;>omega) _
 have hS1:=h.below hbW;obtain⟨x0,x1,x2⟩:=hv1.facts;obtain⟨y0,y1,y2,y3,yf⟩:=hS1.facts;have HS1:Hid (SrAt (fun _=>True) B W1 sb wb lb xs d tv fv cls its fs):=hS1;have HV1:Hid (VB sb tx wt (rowL xs d head) s0 hB gB rB W1):=hv1;have HBW:Hid (Below W.heap.size W W1):=hbW;have HB1:Hid (Below w0.heap.size w0 W1):=hbel.trans (hbW.mono hbel.size);have HST:Hid (Calls Tryz.prog 91 #[.pointer (some ⟨wb,0,none⟩),.int .i64 n] W1 fun e w'=>∃ad cap fl,e = .returned (.tuple #[.agg #[.bool s.final,.int .i64 s.out,.slice ad s.arcs.length cap],.bool fl])∧ArcsAt w'.heap.size w' (.slice ad s.arcs.length cap) (s.arcs.map zAs)∧(∀g,(Value.slice ad s.arcs.length cap).ownBlock=some g→W1.heap.size≤g∧g<w'.heap.size)∧Below W1.heap.size W1 w'):=hst W1 HB1.out;have HL:Hid (LevAt w0 lb xs d):=hL;have HBB:Hid (w0.heap.size≤B):=hB0;obtain⟨na,hna⟩:∃na,s.arcs.length=na:=⟨_,rfl⟩;rw[hna]at HST;have HNA:Hid (s.arcs.length=na):=hna;have HHW:Hid (s.final=true→0≤wt∧0≤s.out∧wt+s.out≤1048576):=hw;have HHF:Hid (fs.length<1000000000):=hf;have HHI:Hid (its.length+s.arcs.length<1000000000):=hi;have HH:Hid (SrAt (fun _=>True) B W sb wb lb xs d tv fv cls its fs):=h;have HE:Hid (((((W.alloc (.cells #[.pointer (some ⟨sb,0,none⟩)] 166)).alloc (.cells #[.string tx] 9)).alloc (.cells #[.int .i64 wt] 3)).alloc (.cells (rC (rowL xs d head)) 133))=W1∧W.heap.size=s0∧s0+1=hB∧hB+1=gB∧gB+1=rB):=⟨hW1,hs0,hr1,hr2,hr3⟩;clear hna htx hw hf hi hst hL hB0 h hS1 hv1 hbel hbW hW1 hs0 hr1 hr2 hr3;refine(callsIn_wide (n:=0)).1 (callsIn_of_wp_marks Tryz.func60 rfl trivial ?_ rfl);refine wpIn_wide.2 ?_;simp only[Tryz.ntmps60,List.size_toArray,List.length_cons,List.length_nil,Nat.reduceAdd,Nat.reduceSub,Array.replicate_succ,Array.replicate_zero,List.push_toArray,List.append_toArray,List.nil_append,List.cons_append];go_upto_region 1 with fail
 obtain⟨hW1,hs0,hr1,hr2,hr3⟩:=HE.out;rw[hW1,hs0,hr1,hr2,hr3];clear hW1 hs0 hr1 hr2 hr3 HE;go_upto_region 2 with(go_at_call 91;refine HST.out.mono ?_;rintro e w2 ⟨ad,cap,fl,rfl,hA,hAo,hb2⟩)
 obtain⟨W3,hW3⟩:∃W3,w2.alloc (.cells #[.bool s.final,.int .i64 s.out,.slice ad na cap] 56)=W3:=⟨_,rfl⟩;obtain⟨stb,hstb⟩:∃stb,w2.heap.size=stb:=⟨_,rfl⟩;have hb23:Below w2.heap.size w2 W3:=by rw[←hW3];exact(Below.refl _ w2).alloc (Nat.le_refl _) _
 have hb3:Below W1.heap.size W1 W3:=hb2.trans (hb23.mono hb2.size);have hst3:W3.heap[stb]?=some (.cells #[.bool s.final,.int .i64 s.out,.slice ad na cap] 56 (0,0)):=by rw[←hW3,←hstb];exact zBm _ _
 have hlen3:stb+1=W3.heap.size:=by rw[←hW3,←hstb];simp
 have HSZ:Hid (W1.heap.size≤stb∧stb+1=W3.heap.size):=⟨by rw[←hstb];exact hb2.size,hlen3⟩;rw[hW3,hstb];have HA3:Hid (ArcsAt W3.heap.size W3 (.slice ad na cap) (s.arcs.map zAs)):=by
  have:=hA.below hb23;exact⟨this.row.mono hb23.size,this.ok,this.len⟩
 have HAL:Hid (∀g,(Value.slice ad na cap).ownBlock=some g→W1.heap.size≤g∧g<W3.heap.size):=fun g hg=>⟨(hAo g hg).1,Nat.lt_of_lt_of_le (hAo g hg).2 hb23.size⟩
 have HV3:Hid (VB sb tx wt (rowL xs d head) s0 hB gB rB W3):=HV1.out.sfe (Sfe.of_below hb3);have HS3:Hid (SrAt (fun _=>True) B W3 sb wb lb xs d tv fv cls its fs):=HS1.out.below hb3;have HB3:Hid (Below w0.heap.size w0 W3):=HB1.out.trans (hb3.mono HB1.out.size);have HW3:Hid (Below W.heap.size W W3):=HBW.out.trans (hb3.mono HBW.out.size);have HST3:Hid (W3.heap[stb]?=some (.cells #[.bool s.final,.int .i64 s.out,.slice ad na cap] 56 (0,0))):=hst3;have HSL:Hid (sb<W1.heap.size∧(∀g,tv.ownBlock=some g→g<W1.heap.size)∧∀g,fv.ownBlock=some g→g<W1.heap.size):=⟨HS1.out.lt,fun g hg=>GOwn.lt HS1.out.todo hg,fun g hg=>GOwn.lt HS1.out.found hg⟩;clear hA hAo hb2 hb23 hb3 hst3 hlen3 hW3 hstb x0 x1 x2 y0 y1 y2 y3 yf HST HV1 HS1 HB1 HBW;have hS2:S2v s0 sb lb rB (rowL xs d head) W3.drew:=S2v.of (W:=W3.drew) (HV3.out.sfe (Sfe.of_below (Below.refl _ W3).drew)) (HS3.out.below (Below.refl _ W3).drew) (zBw _ _ _);have HD3:Hid (Calls Tryz.prog 92 #[.pointer (some ⟨lb,0,none⟩),rV (rowL xs d head)] W3.drew fun e w'=>e = .returned (.tuple #[.int .i64 (zNw xs.length d (rowL xs d head):Int),.bool (zJc xs.length d (rowL xs d head))])∧Below W3.drew.heap.size W3.drew w'):=Dist_any lb xs d _ W3.drew ((HL.out.below HB3.out).below (Below.refl _ W3).drew) (zBw _ _ _);refine zQd ?_;refine zAh (S:=S2v s0 sb lb rB (rowL xs d head)) 11 rfl zAr hS2 (fun _=>?_);refine zCn (i:=0) 27 rfl rfl (by kernel_rfl) (by kernel_rfl) (by kernel_rfl) (fun c _ _ h=>absurd rfl (h.1 c)) (by rfl) (fun _ s=>by(have h:=S2v.facts s;clear s;go_simp;first|done|exact rfl)) (by assumption) ?_;simp only[sZa,sZb,sZc];refine zCn (i:=1) 28 rfl rfl (by kernel_rfl) (by kernel_rfl) (by kernel_rfl) (fun c _ _ h=>absurd rfl (h.1 c)) (by rfl) (fun _ s=>by(have h:=S2v.facts s;clear s;go_simp;first|done|exact rfl)) (by assumption) ?_;simp only[sZa,sZb,sZc];refine zCn (i:=2) 29 rfl rfl (by kernel_rfl) (by kernel_rfl) (by kernel_rfl) (fun c _ _ h=>absurd rfl (h.1 c)) (by rfl) (fun _ s=>by(have h:=S2v.facts s;clear s;go_simp;first|done|exact rfl)) (by assumption) ?_;simp only[sZa,sZb,sZc];refine zCn (i:=3) 30 rfl rfl (by kernel_rfl) (by kernel_rfl) (by kernel_rfl) (fun c _ _ h=>absurd rfl (h.1 c)) (by rfl) (fun _ s=>by(have h:=S2v.facts s;clear s;go_simp;first|done|exact rfl)) (by assumption) ?_;simp only[sZa,sZb,sZc];refine zCn (i:=4) (v:=rV (rowL xs d head)) 31 rfl rfl (by kernel_rfl) (by kernel_rfl) (by kernel_rfl) (fun c _ _ h=>absurd rfl (h.1 c)) (by rfl) (fun w hSw=>by(have h2:=hSw.c;exact(zAz _ (.tmp 9) _ _ _ _ _ _).trans (congrArg (fun z=>Result.andThen z (fun v w'=>Result.ok (Next.value v) w')) h2))) (by assumption) ?_;simp only[sZa,sZb,sZc];refine oc 5 W3.drew 32 92 #[.pointer (some ⟨lb,0,none⟩),rV (rowL xs d head)] ?_;refine HD3.out.mono ?_;rintro e w4 ⟨rfl,hb4d⟩;have hb4:Below W3.heap.size W3 w4:=(Below.refl _ W3).drew.trans (hb4d.mono (Nat.le_refl _));have HV4:Hid (VB sb tx wt (rowL xs d head) s0 hB gB rB w4):=HV3.out.sfe (Sfe.of_below hb4);have HS4:Hid (SrAt (fun _=>True) B w4 sb wb lb xs d tv fv cls its fs):=HS3.out.below hb4;have hS4:S2v s0 sb lb rB (rowL xs d head) w4:=S2v.of HV4.out HS4.out (zBw _ _ _);obtain⟨dn,hdn⟩:∃dn,zNw xs.length d (rowL xs d head)=dn:=⟨_,rfl⟩;obtain⟨db,hdb⟩:∃db,zJc xs.length d (rowL xs d head)=db:=⟨_,rfl⟩;have HDN:Hid (zNw xs.length d (rowL xs d head)=dn):=hdn;have HDB:Hid (zJc xs.length d (rowL xs d head)=db):=hdb;rw[hdn,hdb];clear hdn hdb;refine⟨_,rfl,hS4,fun _=>?_⟩;simp only[sZa,sZb,sZc];refine zCn (i:=6) 26 rfl rfl (by kernel_rfl) (by kernel_rfl) (by kernel_rfl) (fun c _ _ h=>absurd rfl (h.1 c)) (by rfl) (fun _ s=>by(have h:=id s;clear s;go_simp;first|done|exact rfl)) (by assumption) ?_;simp only[sZa,sZb,sZc];refine zCn (i:=7) 33 rfl rfl (by kernel_rfl) (by kernel_rfl) (by kernel_rfl) (fun c _ _ h=>absurd rfl (h.1 c)) (by rfl) (fun _ s=>by(have h:=id s;clear s;go_simp;first|done|exact rfl)) (by assumption) ?_;simp only[sZa,sZb,sZc];refine zCn (i:=8) 34 rfl rfl (by kernel_rfl) (by kernel_rfl) (by kernel_rfl) (fun c _ _ h=>absurd rfl (h.1 c)) (by rfl) (fun _ s=>by(have h:=id s;clear s;go_simp;first|done|exact rfl)) (by assumption) ?_;simp only[sZa,sZb,sZc];refine zCn (i:=9) 12 rfl rfl (by kernel_rfl) (by kernel_rfl) (by kernel_rfl) (fun c _ _ h=>absurd rfl (h.1 c)) (by rfl) (fun _ s=>by(have h:=id s;clear s;go_simp;first|done|exact rfl)) (by assumption) ?_;simp only[sZa,sZb,sZc];refine zCn (i:=10) 13 rfl rfl (by kernel_rfl) (by kernel_rfl) (by kernel_rfl) (fun c _ _ h=>absurd rfl (h.1 c)) (by rfl) (fun _ s=>by(have h:=id s;clear s;go_simp;first|done|exact rfl)) (by assumption) ?_;simp only[sZa,sZb,sZc];refine wpAnyH_done (by kernel_rfl) ?_ _;refine⟨fun _=>nofun,?_⟩;have HST4:Hid (w4.heap[stb]?=some (.cells #[.bool s.final,.int .i64 s.out,.slice ad na cap] 56 (0,0))):=(hb4.block stb (Array.getElem?_eq_some_iff.1 HST3.out).1).trans HST3.out;have HB4:Hid (Below w0.heap.size w0 w4):=HB3.out.trans (hb4.mono HB3.out.size);have HW4:Hid (Below W.heap.size W w4):=HW3.out.trans (hb4.mono HW3.out.size);have HA4:Hid (ArcsAt w4.heap.size w4 (.slice ad na cap) (s.arcs.map zAs)):=by
  have:=HA3.out.below hb4;exact⟨this.row.mono hb4.size,this.ok,this.len⟩
 have HAL4:Hid (∀g,(Value.slice ad na cap).ownBlock=some g→W1.heap.size≤g∧g<w4.heap.size):=fun g hg=>⟨(HAL.out g hg).1,Nat.lt_of_lt_of_le (HAL.out g hg).2 hb4.size⟩
 have HOW:Hid (∀g,(Value.slice ad na cap).ownBlock=some g→¬SrF sb tv fv g):=fun g hg hs=>by
  have h1:=(HAL.out g hg).1;have h2:g<W1.heap.size:=by
   rcases hs with e|e|e
   · rw[e];exact HSL.out.1
   · exact HSL.out.2.1 g e
   · exact HSL.out.2.2 g e
  omega
 obtain⟨fb,hfb⟩:∃fb,s.final=fb:=⟨_,rfl⟩;have HFB:Hid (s.final=fb):=hfb;have z0:w4.cell? ⟨stb,0,none⟩=some (.bool fb):=by simp[World.cell?,HST4.out,hfb]
 have z1:w4.cell? ⟨stb,1,none⟩=some (.int .i64 s.out):=by simp[World.cell?,HST4.out]
 have HDR:Hid (db=decide (lv head xs≤d)∧(lv head xs≤d→(dn:Int)=(lv head xs:Int))):=by
  have h1:=dist_row (xs:=xs) d head HL.out.len;exact⟨by rw[←HDB.out];exact h1.1,fun h=>by rw[←HDN.out,h1.2 h]⟩
 clear hfb hS2 hS4 hb4 hb4d HD3;have HVX:Hid (∀fv5 fs5 V,Below w0.heap.size w0 V→SrAt (fun _=>True) B V sb wb lb xs d tv fv5 cls its fs5→Upd (SrF sb tv fv) W V→Sfe (fun _=>True) w4 V→(∀g,(Value.slice ad na cap).ownBlock=some g→¬SrF sb tv fv5 g)→ArcsAt V.heap.size V (.slice ad na cap) (s.arcs.map zAs)→fs++hits xs d (udF head wt s)=fs5→(∀g,g<W.heap.size→fv.ownBlock≠some g→fv5.ownBlock≠some g)→VX w0 B W sb wb lb xs d tv fv cls its (fs++hits xs d (udF head wt s)) tx wt (rowL xs d head) s s0 hB gB rB stb ad cap V):=fun fv5 fs5 V g1 g2 g3 g4 g5 g6 g7 g8=>by
  subst g7;refine⟨fv5,g1,g2,g3,HV4.out.sfe g4,?_,?_,?_,g8⟩
  · rw[HNA.out];exact(g4 _ _ _ trivial HST4.out (by decide) (by decide) (by decide)).trans HST4.out
  · rw[HNA.out];exact g6
  · rw[HNA.out];exact g5
 have HNO:Hid (¬(db=true∧fb=true)→fs++hits xs d (udF head wt s)=fs):=fun hn=>by
  unfold udF hits;rw[HFB.out];cases fb
  · simp
  · have:db=false:=by cases db;rfl;exact absurd ⟨rfl,rfl⟩ hn
    have h2:=HDR.out.1;rw[this]at h2;(have h3:¬lv head xs≤d:=by simpa using h2);simp[hit,h3]
 go_upto_region 3 with fail
 go_cut [39]from 35 to 39 (fun s39 wc=>s39 = .bool (db&&fb)∧wc=w4)
 case first=>
  cases db
  · go_wp2
    go_meet
    exact⟨rfl,rfl⟩
  · go_wp2
    go_meet
    exact⟨by simp,rfl⟩
 case rest=>
 obtain⟨rfl,hwc⟩:=hcut;rw[hwc];clear hwc
 go_upto_if 39 with fail
 go_cut [12,39]from 40 to 55 (fun s12 _ wc=>s12 = .int .i64 (dn:Int)∧VX w0 B W sb wb lb xs d tv fv cls its (fs++hits xs d (udF head wt s)) tx wt (rowL xs d head) s s0 hB gB rB stb ad cap wc)
 case first=>
  by_cases hbb:db=true∧fb=true
  · obtain⟨rfl,rfl⟩:=hbb
    obtain⟨hw0,hw1,hw2⟩:=HHW.out HFB.out;(have hwr:IntKind.i64.wrap (wt+s.out)=wt+s.out:=by rw[IntKind.wrap_i64];omega);obtain⟨hdr1,hdr2⟩:=HDR.out;(have hle:lv head xs≤d:=by simpa using hdr1.symm);have hdnz:=hdr2 hle;obtain⟨sm,hsm⟩:∃sm,wt+s.out=sm:=⟨_,rfl⟩;have HMT:Hid (fs++hits xs d (udF head wt s)=fs++[(tx,sm,(dn:Int))]):=by
     show fs++hits xs d (udF head wt s)=fs++[(tx,sm,(dn:Int))];unfold udF hits;rw[if_pos HFB.out];simp[hit,hle,HTX.out,hsm,hdnz]
    rw[hsm]at hwr;obtain⟨V3,hV3⟩:∃V3,w4.drew=V3:=⟨_,rfl⟩;(have hb3:Below w4.heap.size w4 V3:=by rw[←hV3];exact(Below.refl _ w4).drew);obtain⟨V4,hV4⟩:∃V4,V3.alloc (.cells #[.string tx,.int .i64 sm,.int .i64 (dn:Int)] 52)=V4:=⟨_,rfl⟩;(have hb34:Below V3.heap.size V3 V4:=by rw[←hV4];exact(Below.refl _ V3).alloc (Nat.le_refl _) _);have hb4:Below w4.heap.size w4 V4:=hb3.trans (hb34.mono hb3.size);(have hn4:V4.heap[V3.heap.size]?=some (.cells #[.string tx,.int .i64 sm,.int .i64 (dn:Int)] 52):=by rw[←hV4];exact zAb _ _);(have hBV:B≤V4.heap.size:=by have h1:=HS4.out.lo;have h2:=HS4.out.lt;have h3:=hb4.size;omega);obtain⟨fd,fn,fc,hfv⟩:∃fd fn fc,fv = .slice fd fn fc:=by
     obtain⟨ad,cap,e,_⟩:=GOwn.shape HS4.out.found;exact⟨_,_,_,e⟩
    obtain⟨v',W',hap,ho',hgr,hob⟩:=zAx rtyM (GOwn.below HS4.out.found hb4) hBV (cellsM_ok (tx,sm,(dn:Int))) (nb:=V3.heap.size) (fun i u hi=>by simp only[World.cell?,hn4];simpa[cellsM]using hi) (by rw[List.length_map];have:=HHF.out;omega) 46 1;obtain⟨vd2,vn2,vc2,hvv2⟩:∃vd vn vc,v' = .slice vd vn vc:=by
     obtain⟨ad,cap,e,_⟩:=GOwn.shape ho';exact⟨_,_,_,e⟩
    subst hvv2;obtain⟨hs8,hu8,hc1,hfz⟩:=HS4.out.pushM (tx,sm,(dn:Int)) hb4 hgr ho' hob (fun _ _=>trivial);have hu7:Upd (SrF sb tv fv) w4 W':=(Upd.of_below hb4).trans (G:=fun j=>fv.ownBlock=some j) ⟨hgr.os,hgr.tape,hgr.output,hgr.size,fun j hj hn=>hgr.block j hj (fun e=>hn e.symm)⟩ (fun _ _ g => .inr (.inr g));have hv7:=HV4.out.sfe (HS4.out.sfe hu7);have ht7:=((HS4.out.sfe (K':=fun _=>True) hu7) _ _ _ trivial HST4.out (by decide) (by decide) (by decide)).trans HST4.out;subst hfv;have hS0:S4v s0 hB gB sb stb tx wt (.slice fd fn fc) s.out V3:=by
     have a1:=(HV4.out.sfe (Sfe.of_below hb3)).facts;exact⟨a1.1,(HS4.out.below hb3).facts.2.2.2.1,a1.2.1,a1.2.2,(hb3.cell (p:=⟨stb,1,none⟩) (World.block_lt_of_cell? _ _ z1)).trans z1⟩
    have hS4:S4v s0 hB gB sb stb tx wt (.slice fd fn fc) s.out V4:=by
     have a1:=(HV4.out.sfe (Sfe.of_below hb4)).facts;exact⟨a1.1,(HS4.out.below hb4).facts.2.2.2.1,a1.2.1,a1.2.2,(hb4.cell (p:=⟨stb,1,none⟩) (World.block_lt_of_cell? _ _ z1)).trans z1⟩
    have hS5:S4v s0 hB gB sb stb tx wt (.slice fd fn fc) s.out W':=⟨hv7.facts.1,hc1,hv7.facts.2.1,hv7.facts.2.2,by simp[World.cell?,ht7]⟩;obtain⟨W8,hW8⟩:∃W8,W'.setCell ⟨sb,3,none⟩ (.slice vd2 vn2 vc2)=W8:=⟨_,rfl⟩;rw[hW8]at hs8 hu8;have HAP:Hid ((Builtin.append_ #[46,46] 46 #[.slice fd fn fc,.slice (some ⟨V3.heap.size,0,none⟩) 1 1]).run Tryz.prog V4 = .ok (.slice vd2 vn2 vc2) W'):=hap;have HFIN:Hid (VX w0 B W sb wb lb xs d tv (.slice fd fn fc) cls its (fs++hits xs d (udF head wt s)) tx wt (rowL xs d head) s s0 hB gB rB stb ad cap W8):=by
     refine HVX.out (.slice vd2 vn2 vc2) (fs++[(tx,sm,(dn:Int))]) W8 ?_ hs8 ?_ (HS4.out.sfe hu8) (fun g hg=>?_) ?_ HMT.out (fun g hg hn e=>?_)
     · exact HB4.out.trans (hu8.below HB4.out.size fun k hk=>Nat.le_trans HBB.out (SrF.lo HS4.out hk))
     · exact(Upd.of_below HW4.out).trans hu8 (fun _ _ g=>g)
     · rintro(e|e|e)
       · exact HOW.out g hg (.inl e)
       · exact HOW.out g hg (.inr (.inl e))
       · rcases hob with e2|⟨g2,e2,h2⟩
         · exact HOW.out g hg (.inr (.inr (e2▸e)))
         · rw[e2]at e
           cases e;have h5:=(HAL4.out g hg).2;have h6:=hb4.size;omega
     · exact HA4.out.upd hu8 (Nat.le_refl _) HOW.out
     · rcases hob with e2|⟨g2,e2,h2⟩
       · exact hn (e2▸e)
       · rw[e2]at e
         cases e;have h5:=HW4.out.size;have h6:=hb4.size;omega
    have HWS:Hid (W'.setCell ⟨sb,3,none⟩ (.slice vd2 vn2 vc2)=W8):=hW8;have HV4E:Hid (V3.alloc (.cells #[.string tx,.int .i64 sm,.int .i64 (dn:Int)] 52)=V4):=hV4;simp only[Bool.and_self];clear hap ho' hgr hob hs8 hu8 hu7 hv7 ht7 hb3 hb34 hb4 hn4 z0 z1 hdnz hdr1 hdr2 hle hV4 hW8;(go_upto_region 4 with fail);refine zQd ?_;refine zBd (S:=S4v s0 hB gB sb stb tx wt (.slice fd fn fc) s.out) 17 16 rfl zAr ?_;rw[hV3];clear hV3;refine zA9 (i:=0) 40 rfl rfl (by kernel_rfl) (by kernel_rfl) (by kernel_rfl) (by kernel_rfl) (fun c _ _ h=>absurd rfl (h.1 c)) (by rfl) (fun _ s=>by(have h:=S4v.facts s;clear s;go_simp;first|done|exact rfl)) (by assumption) ?_;simp only[sZa,sZb,sZc];refine zA9 (i:=1) 41 rfl rfl (by kernel_rfl) (by kernel_rfl) (by kernel_rfl) (by kernel_rfl) (fun c _ _ h=>absurd rfl (h.1 c)) (by rfl) (fun _ s=>by(have h:=S4v.facts s;clear s;go_simp;first|done|exact rfl)) (by assumption) ?_;simp only[sZa,sZb,sZc];refine zA9 (i:=2) 42 rfl rfl (by kernel_rfl) (by kernel_rfl) (by kernel_rfl) (by kernel_rfl) (fun c _ _ h=>absurd rfl (h.1 c)) (by rfl) (fun _ s=>by(have h:=S4v.facts s;clear s;go_simp;first|done|exact rfl)) (by assumption) ?_;simp only[sZa,sZb,sZc];refine zA9 (i:=3) 43 rfl rfl (by kernel_rfl) (by kernel_rfl) (by kernel_rfl) (by kernel_rfl) (fun c _ _ h=>absurd rfl (h.1 c)) (by rfl) (fun _ s=>by(have h:=S4v.facts s;clear s;go_simp;first|done|exact rfl)) (by assumption) ?_;simp only[sZa,sZb,sZc];refine zA9 (i:=4) 44 rfl rfl (by kernel_rfl) (by kernel_rfl) (by kernel_rfl) (by kernel_rfl) (fun c _ _ h=>absurd rfl (h.1 c)) (by rfl) (fun _ s=>by(have h:=S4v.facts s;clear s;go_simp;first|done|exact rfl)) (by assumption) ?_;simp only[sZa,sZb,sZc];refine zA9 (i:=5) 45 rfl rfl (by kernel_rfl) (by kernel_rfl) (by kernel_rfl) (by kernel_rfl) (fun c _ _ h=>absurd rfl (h.1 c)) (by rfl) (fun _ s=>by(have h:=S4v.facts s;clear s;go_simp;first|done|exact rfl)) (by assumption) ?_;simp only[sZa,sZb,sZc];refine zA9 (i:=6) 46 rfl rfl (by kernel_rfl) (by kernel_rfl) (by kernel_rfl) (by kernel_rfl) (fun c _ _ h=>absurd rfl (h.1 c)) (by rfl) (fun _ s=>by(have h:=S4v.facts s;clear s;go_simp;first|done|exact rfl)) (by assumption) ?_;simp only[sZa,sZb,sZc];refine zA9 (i:=7) 47 rfl rfl (by kernel_rfl) (by kernel_rfl) (by kernel_rfl) (by kernel_rfl) (fun c _ _ h=>absurd rfl (h.1 c)) (by rfl) (fun _ s=>by(have h:=S4v.facts s;clear s;go_simp;first|done|exact rfl)) (by assumption) ?_;simp only[sZa,sZb,sZc];refine zA9 (i:=8) 48 rfl rfl (by kernel_rfl) (by kernel_rfl) (by kernel_rfl) (by kernel_rfl) (fun c _ _ h=>absurd rfl (h.1 c)) (by rfl) (fun _ s=>by(have h:=S4v.facts s;clear s;go_simp;first|done|exact rfl)) (by assumption) ?_;simp only[sZa,sZb,sZc];refine zA9 (i:=9) (v := .int .i64 sm) 49 rfl rfl (by kernel_rfl) (by kernel_rfl) (by kernel_rfl) (by kernel_rfl) (fun c _ _ h=>absurd rfl (h.1 c)) (by rfl) (fun w hSw=>by(clear hSw;go_simp;first|done|exact rfl|(rw[hsm];exact congrArg _ hwr)|simp_all)) (by assumption) ?_;simp only[sZa,sZb,sZc];refine zA9 (i:=10) 50 rfl rfl (by kernel_rfl) (by kernel_rfl) (by kernel_rfl) (by kernel_rfl) (fun c _ _ h=>absurd rfl (h.1 c)) (by rfl) (fun _ s=>by(have h:=S4v.facts s;clear s;go_simp;first|done|exact rfl)) (by assumption) ?_;simp only[sZa,sZb,sZc];refine zA9 (i:=11) 51 rfl rfl (by kernel_rfl) (by kernel_rfl) (by kernel_rfl) (by kernel_rfl) (fun c _ _ h=>absurd rfl (h.1 c)) (by rfl) (fun _ s=>by(have h:=S4v.facts s;clear s;go_simp;first|done|exact rfl)) (by assumption) ?_;simp only[sZa,sZb,sZc];refine zAg (i:=12) (v := .slice (some ⟨V3.heap.size,0,none⟩) 1 1) (w':=V4) 52 (by kernel_rfl) rfl rfl (by rfl) (by rw[←HV4E.out];go_simp;first|done|exact rfl) hS4 ?_;simp only[sZa,sZb,sZc];refine zAg (i:=13) (v := .slice vd2 vn2 vc2) (w':=W') 53 (by kernel_rfl) rfl rfl (by rfl) (zCj HAP.out) hS5 ?_;simp only[sZa,sZb,sZc];refine zAg (i:=14) (v := .pointer (some ⟨sb,0,none⟩)) (w':=W') 54 (by kernel_rfl) rfl rfl (by rfl) (by kernel_rfl) hS5 ?_;simp only[sZa,sZb,sZc];refine zAg (i:=15) (v := .pointer (some ⟨sb,3,none⟩)) (w':=W') 55 (by kernel_rfl) rfl rfl (by rfl) (by kernel_rfl) hS5 ?_;simp only[sZa,sZb,sZc];have hc2:=hS5.b;refine zA6 (w':=W8) (by kernel_rfl) rfl rfl (by rfl) (by rw[←HWS.out];go_simp;first|done|exact rfl) (by kernel_rfl) ?_;refine⟨fun _=>nofun,?_⟩;go_wp2
    go_meet
    exact⟨rfl,HFIN.out⟩
  · have hbf:(db&&fb)=false:=by cases db<;>cases fb<;>simp_all
    rw[hbf];have HFIN:Hid (VX w0 B W sb wb lb xs d tv fv cls its (fs++hits xs d (udF head wt s)) tx wt (rowL xs d head) s s0 hB gB rB stb ad cap w4):=by
     refine HVX.out fv fs w4 HB4.out HS4.out (Upd.of_below HW4.out) (fun _ _ _ _ _ _ _ _=>rfl) HOW.out HA4.out (HNO.out hbb) (fun _ _ hn=>hn)
    clear z0 z1 hbb hbf;go_wp2
    go_meet
    exact⟨rfl,HFIN.out⟩
 case rest=>
 obtain⟨rfl,fv5,hVA⟩:=hcut;obtain⟨fs5,hfs5⟩:∃fs5,fs++hits xs d (udF head wt s)=fs5:=⟨_,rfl⟩;rw[hfs5]at hVA HR;have HVA:Hid (VA w0 B W sb wb lb xs d tv fv cls its fs5 tx wt (rowL xs d head) s s0 hB gB rB stb ad cap fv5 wc):=hVA;have hst5:wc.cell? ⟨stb,2,none⟩=some (.slice ad na cap):=by
  have:=hVA.st;rw[HNA.out]at this;simp[World.cell?,this]
 clear hVA hfs5 z0 z1 HVX HNO HDR HFB HDN HDB HOW HAL4 HA4 HW4 HB4 HST4 HS4 HV4 HV3 HS3 HB3 HW3 HST3 HA3 HAL HSL HSZ HHW HHF;go_wp2_with (go_at_call 93;refine(zOi _ _ _ _).mono ?_;rintro e W6 ⟨rfl,hW6⟩;have HW6:Hid (W6=wc.alloc (.cells #[.slice ad na cap] 54)):=hW6;clear hW6);have hW6:=HW6.out;obtain⟨bx,hbx⟩:∃bx,bx=wc.heap.size:=⟨_,rfl⟩;rw[←hbx];have hb6:Below wc.heap.size wc W6:=by rw[hW6];exact(Below.refl _ wc).alloc (Nat.le_refl _) _
 have hbx6:W6.heap[bx]?=some (.cells #[.slice ad na cap] 54 (0,0)):=by rw[hW6,hbx];exact zBm _ _
 have hs6:SrAt (fun _=>True) B W6 sb wb lb xs d tv fv5 cls its fs5:=HVA.out.sr.below hb6;have hv6:VB sb tx wt (rowL xs d head) s0 hB gB rB W6:=HVA.out.vb.sfe (Sfe.of_below hb6);have hw6:Below w0.heap.size w0 W6:=HVA.out.bel.trans (hb6.mono HVA.out.bel.size);have ha6:ArcsAt W6.heap.size W6 (.slice ad na cap) (s.arcs.map zAs):=by
  have h1:=HVA.out.arcs;rw[HNA.out]at h1;have h2:=h1.below hb6;exact⟨h2.row.mono hb6.size,h2.ok,h2.len⟩
 have ho6:∀g,(Value.slice ad na cap).ownBlock=some g→¬SrF sb tv fv5 g:=by have:=HVA.out.own;rw[HNA.out]at this;exact this
 have hu6:Upd (SrF sb tv fv) W W6:=HVA.out.upd.trans (Upd.of_below (F:=fun _=>False) hb6) (fun _ _ g=>g.elim);have HFVN:Hid (∀g,g<W.heap.size→fv.ownBlock≠some g→fv5.ownBlock≠some g):=HVA.out.new;have hml:(s.arcs.map zAs).length=na:=by rw[List.length_map,HNA.out]
 have HX:Hid (∀k V,VI B sb wb lb xs d tv fv5 its fs5 head wt s.arcs W6 k V→BkAt bx ad cap (s.arcs.map zAs) V):=fun k V hi=>by
  refine⟨?_,?_⟩
  · have h1:=((hi.sfe hs6) _ _ _ trivial hbx6 (by decide) (by decide) (by decide)).trans hbx6
    rw[hml];simp[World.cell?,h1]
  · rw[hml]
    exact⟨_,ha6.upd hi.upd (Nat.le_refl _) ho6⟩
 clear hst5 hW6 HW6 hbx;have HS6:Hid (SrAt (fun _=>True) B W6 sb wb lb xs d tv fv5 cls its fs5):=hs6;have HV6:Hid (VB sb tx wt (rowL xs d head) s0 hB gB rB W6):=hv6;have HB6:Hid (Below w0.heap.size w0 W6):=hw6;have HU6:Hid (Upd (SrF sb tv fv) W W6):=hu6;have HO6:Hid (∀g,(Value.slice ad na cap).ownBlock=some g→¬SrF sb tv fv5 g):=ho6;have hal:=ha6.len;clear hs6 hv6 hw6 hu6 ho6 ha6 hbx6 hb6;refine zUc (gf:=130) (lb:=#[.pointer (some ⟨bx,0,none⟩)]) rfl (enters_of Tryz.func130 (by kernel_rfl) rfl) (back_seq bx ad cap (s.arcs.map zAs) hal) (fun _=>rfl) (VI B sb wb lb xs d tv fv5 its fs5 head wt s.arcs W6) HX.out (fun _ _ _ h hu=>h.minds hu) (VI.start HS6.out) ?_ ?_
 · rintro lp k V hk hi hlt
   rw[List.length_map]at hk;obtain⟨a,ha⟩:∃a,s.arcs[s.arcs.length-1-k]?=some a:=⟨_,List.getElem?_eq_getElem (by omega)⟩;have henc:(s.arcs.map zAs).getD ((s.arcs.map zAs).length-1-k) zArc=zAs a:=by
    rw[List.length_map,List.getD_eq_getElem?_getD,List.getElem?_map,ha];rfl
   rw[henc];obtain⟨ix,hix⟩:∃ix,(s.arcs.map zAs).length-1-k=ix:=⟨_,rfl⟩;rw[hix];simp only[arcW,zAs];have HI:Hid (VI B sb wb lb xs d tv fv5 its fs5 head wt s.arcs W6 k V):=hi;have HLT:Hid (W6.heap.size+1<V.heap.size):=hlt;have HK:Hid (k<s.arcs.length):=hk;have HA:Hid (s.arcs[s.arcs.length-1-k]?=some a):=ha;clear hi hlt hk ha henc hix hml hal HX
   gi_wp2
   refine⟨Upd.of_below ((Below.refl _ V).alloc (Nat.le_refl _) _),fun W2 hu2=>?_⟩;obtain⟨ab,hab⟩:∃ab,V.heap.size=ab:=⟨_,rfl⟩;rw[hab];have hua:Upd (fun j=>j=W6.heap.size∨j=W6.heap.size+1) V W2:=(Upd.of_below ((Below.refl _ V).alloc (Nat.le_refl _) _)).trans hu2 (fun j _ g => .inr g);have hI2:=HI.out.minds hua;have hlt:=HLT.out;(have HABL:Hid (W6.heap.size+1<ab):=by rw[←hab];exact hlt);have HAB2:Hid (W2.heap[ab]?=some (.cells #[.int .i32 a.label,.int .i64 a.out,.int .i64 (a.to:Int)] 89 (0,0))):=(hu2.block ab (by rw[←hab];simp) (by omega)).trans (by rw[←hab];exact zBm _ _);have HLT2:Hid (W6.heap.size+1<W2.heap.size):=Nat.lt_of_lt_of_le hlt hua.size;obtain⟨tv1,cls1,hs2,hn2⟩:=hI2.ex;have HI2:Hid (VI B sb wb lb xs d tv fv5 its fs5 head wt s.arcs W6 k W2):=hI2;have HS2:Hid (SrAt (Off W6.heap.size) B W2 sb wb lb xs d tv1 fv5 cls1 (its++zGm xs d head wt s.arcs k) fs5):=hs2;have HN2:Hid (∀g,tv1.ownBlock=some g→tv.ownBlock=some g∨W6.heap.size≤g):=hn2;have HV2:Hid (VB sb tx wt (rowL xs d head) s0 hB gB rB W2):=HV6.out.sfe (hI2.sfe HS6.out);have HL2:Hid (LevAt W2 lb xs d):=HL.out.below (hI2.bel HS6.out HB6.out HBB.out);have HS7:Hid (∀V,Below W2.heap.size W2 V→S7v2 s0 sb lb rB ab (rowL xs d head) a.label V):=fun V hb=>by
    have h1:=HV2.out.sfe (Sfe.of_below hb);have h2:V.heap[ab]?=_:=(hb.block ab (Array.getElem?_eq_some_iff.1 HAB2.out).1).trans HAB2.out;exact⟨h1.facts.1,(HS2.out.below hb).facts.2.1,zBl h1.b3.range (zBw _ _ _),by simp[World.cell?,h2]⟩
   have HSTEP:Hid (∀V,Below W2.heap.size W2 V→Calls Tryz.prog 94 #[.pointer (some ⟨lb,0,none⟩),rV (rowL xs d head),.int .i32 a.label] V fun e w'=>e = .returned (rV (rowL xs d (head++[a.label])))∧Below V.heap.size V w'):=fun V hb=>by
    have:=Step_any lb xs d (rowL xs d head) a.label V (HL2.out.below hb) (zBw _ _ _);rw[zQk d head a.label HL.out.len]at this;exact this
   clear hab hua hI2 hlt hs2 hn2 hu2
   gi_wp2
   have hS7:=HS7.out W2.drew (Below.refl _ W2).drew;refine zQt (S:=S7v2 s0 sb lb rB ab (rowL xs d head) a.label) 10 rfl zAr (by kernel_rfl) (by rintro⟨_,_,h⟩;exact h) hS7 (fun _=>?_);refine tq4 S7v2.facts 0 61 1 62 2 63 3 64 ?_;simp only[sZa,sZb,sZc];refine tk (i:=4) (v:=rV (rowL xs d head)) 65 rfl rfl (by kernel_rfl) (fun w hSw=>by(have h2:=hSw.c;exact(zAz _ (.tmp 9) _ _ _ _ _ _).trans (congrArg (fun z=>Result.andThen z (fun v w'=>Result.ok (Next.value v) w')) h2))) ?_;simp only[sZa,sZb,sZc];refine tq2 S7v2.facts 5 66 6 67 ?_;simp only[sZa,sZb,sZc];refine two_at (i:=7) (j:=8) 68 16 (by kernel_rfl) rfl rfl rfl rfl (by rfl) (by rfl) (fun KK hKK=>?_) (fun KK hKK=>?_)
   focus
    refine zQc (w0:=W2.drew) 94 #[.pointer (some ⟨lb,0,none⟩),rV (rowL xs d head),.int .i32 a.label] (by kernel_rfl) ?_;refine(HSTEP.out W2.drew (Below.refl _ W2).drew).mono ?_;rintro e w3 ⟨rfl,hb3⟩;have hb23:Below W2.heap.size W2 w3:=(Below.refl _ W2).drew.trans (hb3.mono (Nat.le_refl _));refine⟨_,rfl,hKK _ _ (HS7.out w3 hb23) (fun _=>?_)⟩;simp only[sZa,sZb,sZc];obtain⟨V7,hst7,hR7,hb37,_⟩:=keep_row w3 (rowL xs d (head++[a.label])) (zBw _ _ _);have hbA:Below W2.heap.size W2 (w3.alloc (.cells (rC zeros) 133)):=hb23.alloc hb23.size _;have hb7:Below W2.heap.size W2 V7:=hb23.trans (hb37.mono hb23.size);have hnb:W2.heap.size≤w3.heap.size:=hb23.size;refine zAo (i:=8) (v := .pointer (some ⟨w3.heap.size,0,none⟩)) (w':=w3.alloc (.cells (rC zeros) 133)) 16 (by kernel_rfl) rfl rfl (by rfl) (zA8 ..) (HS7.out _ hbA) (fun _=>?_);simp only[sZa,sZb,sZc];refine zBy (i:=9) (w':=V7) (by kernel_rfl) rfl rfl (by rfl) ((zA7 _ (.tmp 16) (.tmp 68) _ _ _ _ _ _).trans (congrArg (fun z=>Result.andThen z (fun _ w'=>Result.ok Next.skip w')) hst7)) (HS7.out _ hb7) (fun _=>?_);refine wpAnyH_done (by kernel_rfl) ?_ _;generalize w3.heap.size=nb at hR7 hnb ⊢;clear hst7 hb37 hbA hb23 hb3 hKK hS7
   rotate_left
   focus
    refine wp_val (v := .pointer (some ⟨W2.drew.heap.size,0,none⟩)) (w':=W2.drew.alloc (.cells (rC zeros) 133)) (zA8 ..) ?_;have hbA:Below W2.heap.size W2 (W2.drew.alloc (.cells (rC zeros) 133)):=(Below.refl _ W2).drew.alloc (Nat.le_refl _) _;refine hKK _ _ (HS7.out _ hbA) (fun _=>?_);simp only[sZa,sZb,sZc];refine zFv (i:=7) (w0:=W2.drew.alloc (.cells (rC zeros) 133)) 68 94 #[.pointer (some ⟨lb,0,none⟩),rV (rowL xs d head),.int .i32 a.label] (by kernel_rfl) rfl rfl (by rfl) (by kernel_rfl) ?_;refine(HSTEP.out _ hbA).mono ?_;rintro e w3 ⟨rfl,hb3⟩;have hb23:Below W2.heap.size W2 w3:=hbA.trans (hb3.mono hbA.size);refine⟨_,rfl,HS7.out w3 hb23,fun _=>?_⟩;simp only[sZa,sZb,sZc];obtain⟨V7,hst7,hR7,hO7⟩:=put_row (rowL xs d (head++[a.label])) (RAt.below (RAt.new W2.drew zeros) (by simp) hb3) zBh (zBw _ _ _);have hb7:Below W2.heap.size W2 V7:=hO7.below hb23 (Nat.le_refl _);have hnb:W2.heap.size≤W2.drew.heap.size:=Nat.le_refl _;refine zBy (i:=9) (w':=V7) (by kernel_rfl) rfl rfl (by rfl) ((zA7 _ (.tmp 16) (.tmp 68) _ _ _ _ _ _).trans (congrArg (fun z=>Result.andThen z (fun _ w'=>Result.ok Next.skip w')) hst7)) (HS7.out _ hb7) (fun _=>?_);refine wpAnyH_done (by kernel_rfl) ?_ _;generalize W2.drew.heap.size=nb at hR7 hnb ⊢;clear hst7 hO7 hbA hb23 hb3 hKK hS7
   all_goals
    have HR7:Hid (RAt V7 nb (rowL xs d (head++[a.label]))):=hR7;have HB7:Hid (Below W2.heap.size W2 V7):=hb7;have HNB:Hid (W2.heap.size≤nb):=hnb;clear hR7 hb7 hnb;have hS8:S2v s0 sb lb nb (rowL xs d (head++[a.label])) V7.drew:=⟨(HV2.out.sfe (Sfe.of_below (HB7.out.drew))).facts.1,(HS2.out.below HB7.out.drew).facts.2.1,zBl (RAt.range (w:=V7.drew) HR7.out) (zBw _ _ _)⟩;have HAL8:Hid (Calls Tryz.prog 95 #[.pointer (some ⟨lb,0,none⟩),rV (rowL xs d (head++[a.label]))] V7.drew fun e w'=>e = .returned (.bool (zC5 xs.length d (rowL xs d (head++[a.label]))))∧Below V7.drew.heap.size V7.drew w'):=zY2 lb xs d _ V7.drew (HL2.out.below HB7.out.drew) (zBw _ _ _)
    gi_wp2
    refine zQt (S:=S2v s0 sb lb nb (rowL xs d (head++[a.label]))) 7 rfl zAr (by kernel_rfl) (by rintro⟨_,_,h⟩;exact h) hS8 (fun _=>?_);refine tq4 S2v.facts 0 69 1 70 2 71 3 72 ?_;simp only[sZa,sZb,sZc];refine tk (i:=4) (v:=rV (rowL xs d (head++[a.label]))) 73 rfl rfl (by kernel_rfl) (fun w hSw=>by(have h2:=hSw.c;exact(zAz _ (.tmp 16) _ _ _ _ _ _).trans (congrArg (fun z=>Result.andThen z (fun v w'=>Result.ok (Next.value v) w')) h2))) ?_;simp only[sZa,sZb,sZc];refine oc 5 V7.drew 74 95 #[.pointer (some ⟨lb,0,none⟩),rV (rowL xs d (head++[a.label]))] ?_;refine HAL8.out.mono ?_;rintro e V8 ⟨rfl,hb8⟩;have hb28:Below W2.heap.size W2 V8:=HB7.out.drew.trans (hb8.mono HB7.out.drew.size);have HR8:Hid (RAt V8 nb (rowL xs d (head++[a.label]))):=(RAt.below (w:=V7.drew) HR7.out (B:=V7.drew.heap.size) (RAt.lt (w:=V7.drew) HR7.out) hb8);have HV8:Hid (VB sb tx wt (rowL xs d head) s0 hB gB rB V8):=HV2.out.sfe (Sfe.of_below hb28);have HS8:Hid (SrAt (Off W6.heap.size) B V8 sb wb lb xs d tv1 fv5 cls1 (its++zGm xs d head wt s.arcs k) fs5):=HS2.out.below hb28;have hS8b:S2v s0 sb lb nb (rowL xs d (head++[a.label])) V8:=⟨HV8.out.facts.1,HS8.out.facts.2.1,zBl HR8.out.range (zBw _ _ _)⟩;have HB28:Hid (Below W2.heap.size W2 V8):=hb28;clear hb28 hb8;obtain⟨al,hal⟩:∃al,zC5 xs.length d (rowL xs d (head++[a.label]))=al:=⟨_,rfl⟩;have HLIVE:Hid (live xs d head a=al):=hal;rw[hal];clear hal;refine⟨_,rfl,hS8b,fun _=>?_⟩;simp only[sZa,sZb,sZc];refine tq id 6 75 ?_;simp only[sZa,sZb,sZc];refine wpAnyH_done (by kernel_rfl) ?_ _;clear hS8 hS8b;cases al
    · gi_wp2
      exact⟨⟨fun _=>False,Upd.of_below HB28.out,id,id⟩,HI2.out.skip HB28.out HK.out HA.out HLIVE.out⟩
    · gi_wp2
      obtain⟨c,hc⟩:∃c,c=Value.func (.func 96) #[] #[.pointer (some ⟨s0,0,none⟩),.pointer (some ⟨ab,0,none⟩),.pointer (some ⟨hB,0,none⟩),.pointer (some ⟨gB,0,none⟩),.pointer (some ⟨nb,0,none⟩)]:=⟨_,rfl⟩;obtain⟨V9,hV9⟩:∃V9,V8.drew=V9:=⟨_,rfl⟩;(have hb9:Below V8.heap.size V8 V9:=by rw[←hV9];exact(Below.refl _ V8).drew);have hb29:Below W2.heap.size W2 V9:=HB28.out.trans (hb9.mono HB28.out.size);have hs9:SrAt (Off W6.heap.size) B V9 sb wb lb xs d tv1 fv5 cls1 (its++zGm xs d head wt s.arcs k) fs5:=HS8.out.below hb9;have hv9:VB sb tx wt (rowL xs d head) s0 hB gB rB V9:=HV8.out.sfe (Sfe.of_below hb9);have hr9:RAt V9 nb (rowL xs d (head++[a.label])):=HR8.out.below HR8.out.lt hb9;have ha9:V9.heap[ab]?=some (.cells #[.int .i32 a.label,.int .i64 a.out,.int .i64 (a.to:Int)] 89 (0,0)):=(hb29.block ab (Array.getElem?_eq_some_iff.1 HAB2.out).1).trans HAB2.out;(have hlt9:W6.heap.size+1<V9.heap.size:=by have h1:=HLT2.out;have h2:=hb29.size;omega);(have hof:∀j,j<W6.heap.size→Off W6.heap.size j:=fun j hj=>⟨by omega,by omega⟩);have hclo:CloAt (Off W6.heap.size) V9 sb xs d c (itOf head wt a):=by
       refine⟨s0,ab,hB,gB,nb,hc,⟨hof _ (Array.getElem?_eq_some_iff.1 HV6.out.b0).1,?_,hof _ (Array.getElem?_eq_some_iff.1 HV6.out.b1).1,hof _ (Array.getElem?_eq_some_iff.1 HV6.out.b2).1,?_⟩,hv9.b0,ha9,?_,hv9.b2,hr9⟩
       · have:=HABL.out;exact⟨by omega,by omega⟩
       · have h1:=HNB.out;have h2:=HLT2.out;exact⟨by omega,by omega⟩
       · have:=hv9.b1;rw[←HTX.out]at this;exact this
      obtain⟨V10,hV10⟩:∃V10,V9.alloc (.cells #[c] 1)=V10:=⟨_,rfl⟩;(have hb10:Below V9.heap.size V9 V10:=by rw[←hV10];exact(Below.refl _ V9).alloc (Nat.le_refl _) _);(have hn10:V10.heap[V9.heap.size]?=some (.cells #[c] 1):=by rw[←hV10];exact zAb _ _);(have hBV:B≤V10.heap.size:=by have h1:=hs9.lo;have h2:=hs9.lt;have h3:=hb10.size;omega);obtain⟨td,tn,tc,htv⟩:∃td tn tc,tv1 = .slice td tn tc:=by
       obtain⟨ad,cap,e,_⟩:=GOwn.shape hs9.todo
       exact⟨_,_,_,e⟩
      obtain⟨v',W',hap,ho',hgr,hob⟩:=zAx rtyF (GOwn.below hs9.todo hb10) hBV (x:=zGa c) ⟨rfl,by rw[hc];simp[zGa,Value.oneCell']⟩ (nb:=V9.heap.size) (fun i u hi=>by simp only[World.cell?,hn10];simpa[zGa]using hi) (by rw[List.length_map,hs9.len,List.length_append];have h1:=HHI.out;have h2:=zVf xs d head wt s.arcs k;have h3:=HK.out;omega) 128 1;obtain⟨vd2,vn2,vc2,hvv2⟩:∃vd vn vc,v' = .slice vd vn vc:=by
       obtain⟨ad,cap,e,_⟩:=GOwn.shape ho';exact⟨_,_,_,e⟩
      subst hvv2;obtain⟨hI9,hu9,hc1,hfz⟩:=VI.push (HI2.out.upd.trans (Upd.of_below (F:=fun _=>False) hb29) (fun _ _ g=>g.elim)) hs9 HN2.out hlt9 HK.out HA.out HLIVE.out hb10 hgr ho' hob hclo;have hu7:Upd (SrF sb tv1 fv5) V9 W':=(Upd.of_below hb10).trans (G:=fun j=>tv1.ownBlock=some j) ⟨hgr.os,hgr.tape,hgr.output,hgr.size,fun j hj hn=>hgr.block j hj (fun e=>hn e.symm)⟩ (fun _ _ g => .inr (.inl g));have hv7:=hv9.sfe (hs9.sfe hu7);obtain⟨W11,hW11⟩:∃W11,W'.setCell ⟨sb,2,none⟩ (.slice vd2 vn2 vc2)=W11:=⟨_,rfl⟩;rw[hW11]at hI9 hu9;have HEND:Hid (roundB (VI B sb wb lb xs d tv fv5 its fs5 head wt s.arcs W6) W6.heap.size k W2 .normal { tmps:=#[],defers:=[] } W11):=by
       refine⟨⟨SrF sb tv1 fv5,(Upd.of_below hb29).trans hu9 (fun _ _ g=>g),fun e=>?_,fun e=>?_⟩,hI9⟩
       · exact(SrF.pos hs9 e).1 rfl
       · exact(SrF.pos hs9 e).2 rfl
      have hS0:S9v s0 sb tv1 V9:=⟨hv9.facts.1,hs9.facts.2.2.1⟩;have hS4:S9v s0 sb tv1 V10:=⟨(hv9.sfe (Sfe.of_below hb10)).facts.1,(hs9.below hb10).facts.2.2.1⟩;have hS5:S9v s0 sb tv1 W':=⟨hv7.facts.1,hc1⟩;subst htv;have HAP:Hid ((Builtin.append_ #[128,128] 128 #[.slice td tn tc,.slice (some ⟨V9.heap.size,0,none⟩) 1 1]).run Tryz.prog V10 = .ok (.slice vd2 vn2 vc2) W'):=hap;have HWS:Hid (W'.setCell ⟨sb,2,none⟩ (.slice vd2 vn2 vc2)=W11):=hW11;have HV10:Hid (V9.alloc (.cells #[c] 1)=V10):=hV10;clear hap ho' hgr hob hI9 hu9 hu7 hv7 hb9 hb29 hb10 hn10 hs9 hv9 hr9 ha9 hlt9 hof hclo hV10 hW11 HS8 HV8 HR8 HB28 HLIVE HR7 HB7 HNB;refine zU3 (S:=S9v s0 sb (.slice td tn tc)) 11 10 rfl zAr (by kernel_rfl) (by rintro⟨_,_,h⟩;exact h) ?_;rw[hV9];clear hV9;refine te4 S9v.facts 0 76 1 77 2 78 3 79 ?_;simp only[sZa,sZb,sZc];refine te2 S9v.facts 4 80 5 81 ?_;simp only[sZa,sZb,sZc];rw[←hc];refine zAg (i:=6) (v := .slice (some ⟨V9.heap.size,0,none⟩) 1 1) (w':=V10) 82 (by kernel_rfl) rfl rfl (by rfl) (by rw[←HV10.out,hc];go_simp;first|done|exact rfl) hS4 ?_;simp only[sZa,sZb,sZc];refine zAg (i:=7) (v := .slice vd2 vn2 vc2) (w':=W') 83 (by kernel_rfl) rfl rfl (by rfl) (zCj HAP.out) hS5 ?_;simp only[sZa,sZb,sZc];refine zAg (i:=8) (v := .pointer (some ⟨sb,0,none⟩)) (w':=W') 84 (by kernel_rfl) rfl rfl (by rfl) (by kernel_rfl) hS5 ?_;simp only[sZa,sZb,sZc];refine zAg (i:=9) (v := .pointer (some ⟨sb,2,none⟩)) (w':=W') 85 (by kernel_rfl) rfl rfl (by rfl) (by kernel_rfl) hS5 ?_;simp only[sZa,sZb,sZc];have hc2:=hS5.b;refine zA6 (w':=W11) (by kernel_rfl) rfl rfl (by rfl) (by rw[←HWS.out];go_simp;first|done|exact rfl) (by kernel_rfl) ?_;clear hc2 hS0 hS4 hS5 hc1 hfz
      gi_wp2
      exact HEND.out
 · intro V hi hD
   rw[List.length_map]at hi;have HD:Hid (V.heap[W6.heap.size]?=some (.deferred (some []))):=hD;have HF:Hid (∀v,R (.returned v) (V.putObj W6.heap.size (.deferred none))):=fun v=>by
    have h1:=hi.minds ((Upd.putR (W:=V) W6.heap.size (.deferred none)).mono fun j e => .inl e);obtain⟨tv',cls',h2⟩:=h1.stop;rw[←HR.out];refine⟨⟨v,rfl⟩,tv',fv5,cls',h2,HU6.out.trans h1.upd fun j hj e=>?_⟩;rcases e with e|e|e
    · exact .inl e
    · exact .inr (.inl e)
    · by_cases hf:fv.ownBlock=some j
      · exact .inr (.inr hf)
      · exact absurd e (HFVN.out j hj hf)
   clear hi hD HX hml hal HS6 HV6 HB6 HU6 HO6;generalize W6.heap.size=db at *;go_wp2;exact⟨by simp,.inl ⟨_,_,rfl,run_takeDeferred HD.out,_,(zOq _ _).choose_spec,HF.out _⟩⟩
