/- Texts that were written apart, joined. -/
import Derived.Test.YthecngkdmnadoaaGreatG00
import Derived.SizedLaws
import Derived.Deep.DeepHandedRow
import Derived.Deep.Slices
import Derived.Lib.LaidTab
import Derived.Test.YthecngkdmnadoaaGreatWalB
import Derived.Test.YthecngkdmnadoaaGreatDrawn
import Derived.Shelf.Lay
import Derived.Shelf.Spec.SlicesGrow
import Derived.Test.YthecngkdmnadoaaGreatG03
import Derived.Deep.LoopGhost
namespace Go.Proofs.YthecngkdmnadoaaGreat
open Go.ChangeShapes Go.WideShapes Go.ChangeAt Go.RowKit
set_option maxRecDepth 100000
theorem own:ownKnob Tryz.prog.godebug=none:=by kernel_rfl
theorem laidOut:laidOutB Tryz.prog=true:=by kernel_rfl
theorem cellsByte:Tryz.prog.cellsOf 5=1:=by kernel_rfl
theorem bytesByte:Tryz.prog.bytesOf 5=1:=by kernel_rfl
noncomputable def laidWorld(os:Os):World:=World.holding Tryz.prog os ⟨#[],#[],[]⟩
def big{H:Type}(d:DataW H):Nat:=match d with
 |.slice elems spare=>elems.length+spare.length
 |_=>0
theorem bytes_in{H:Type}{enc:TypeId×Value→H}{W:World}{base:Nat}{v:Value}{d:DataW H}{p:List MemPlace}
 (hok:Value.okWide Tryz.prog W .any base 34 v) (h:DataW.Trod enc Tryz.prog W 0 (fun _=>true) true 34 v d p)
 (hsz:∀elems spare,d = .slice elems spare→(elems.length+spare.length)*Tryz.prog.bytesOf 5≤reachBytes):
 ∃xs:List Nat,Row W.heap.size W v xs∧xs.length≤140737488351232∧(∀x∈xs,x<256)∧xs.length≤big d:=by
 obtain⟨a0,len,cap,rfl⟩:=okWide_slice Tryz.underlying34 hok;obtain⟨fuel,hf⟩:=h;rcases open_ints Tryz.underlying34 Tryz.underlying5 cellsByte hf with⟨hcs,hx⟩|⟨a,len',cap',zs,hcs,_,hl,hm,hz,hx,hcell,hwz⟩
 · simp[Value.cells]at hcs
   obtain⟨rfl,rfl,rfl⟩:=hcs;exact⟨[],⟨none,0,rfl,Nat.le_refl _,fun _=>rfl,fun h=>by(simp at h)⟩,by simp,fun x hx=>by(simp at hx),by simp⟩
 · simp[Value.cells]at hcs
   obtain⟨rfl,rfl,rfl⟩:=hcs;simp only[Prod.mk.injEq]at hx;obtain⟨rfl,_⟩:=hx;simp only[if_true]at hz;(have hlen:(zs.take len).length=len:=by rw[List.length_take];omega);(have hb:∀x∈zs,0≤x∧x≤255:=fun x hx=>bounds_u8 (hwz x hx));(have hlen2:((zs.take len).map Int.toNat).length=len:=by rw[List.length_map,hlen]);refine⟨(zs.take len).map Int.toNat,⟨some a,cap,by rw[hlen2],by omega,fun h=>by(cases h),fun h0=>?_⟩,?_,?_,?_⟩
   · rw[hlen2]at h0
     obtain⟨b,off,rfl,hc⟩:=ints_at hcell (by omega);refine⟨b,off,rfl,lt_of_cell (hc 0 (by omega)),fun i hi=>?_⟩;rw[hlen2]at hi;rw[hc i (by omega)];(have hz2:i<zs.length:=by omega);have:=hb zs[i] (List.getElem_mem hz2);simp[List.getD_eq_getElem?_getD,hi,hz2];omega
   · have:=hsz _ _ rfl
     rw[bytesByte]at this;simp only[lits,List.length_map,List.length_take,List.length_drop,reachBytes]at this;rw[hlen2];omega
   · intro x hx
     obtain⟨z,hz,rfl⟩:=List.mem_map.1 hx;have:=hb z (List.mem_of_mem_take hz);omega
   · rw[hlen2]
     simp only[big,lits,List.length_map,List.length_take];omega
end Go.Proofs.YthecngkdmnadoaaGreat

namespace Go.Proofs.YthecngkdmnadoaaGreat
open Go.RowKit
set_option maxRecDepth 100000
theorem wp_append_row{w:World}{o:Oper}{a:Act}{K:Act→World→Prop}{Q:Exit→Act→World→Prop}(s x:Operand)
 (ho:o.op = .call { callee := .builtin .append,args:=#[s,x],argTypes:=#[34,34] }) (B N:Nat) (v v2:Value) (xs ys:List Nat)
 (hs:a.eval s=v) (hown:Bytes B w v xs) (hx:a.eval x=v2) (hsrc:Row N w v2 ys) (hl:xs.length+ys.length≤140737488355328) (hB:B≤w.heap.size)
 (h:∀v' w',Bytes B w' v' (xs++ys)→Below B w w'→K (a.put o.dst v') w'):o.wp Tryz.prog a w K Q:=by
 obtain⟨i0,hi,hz0,hz1,hz2⟩:=info_parts infoByte;obtain⟨ao,cap,rfl,hcap,hno,hc⟩:=hsrc;cases ao with
 |none=>
  have e:ys=[]:=by
   cases ys with
   |nil=>rfl
   |cons y r=>obtain⟨b,off,e,_⟩:=hc (by simp);cases e
  subst e;obtain rfl:=hno rfl;have hrun:=run_append_owned_none (P:=Tryz.prog) (w:=w) B 34 o.type 5 i0 1 Tryz.underlying34 hi v xs.length (xs.map bv) hown;unfold Oper.wp;simp[execOp,ho,resolve,invoke,builtin,hs,hx,hrun,Result.andThen];exact h _ _ (by simpa using hown) (Below.refl _ _)
 |some ad=>
  refine wp_append_own w s x 34 ho B 5 i0 (.int .u8 0) 1 1 Tryz.underlying34 hi hz0 hz1 hz2 rfl (by decide) v xs.length _ hs hown ad ys.length cap (ys.map bv) hx (by simp) ?_ ?_ ?_ ?_ hB ?_
  · intro j u hj
    have hjl:j<ys.length:=by
     have:=(List.getElem?_eq_some_iff.1 hj).1;simpa using this
    obtain⟨b,off,e2,_,hc2⟩:=hc (by omega);obtain rfl:=Option.some.inj e2;have:=hc2 j hjl;(have hadd:(⟨b,off,none⟩:Addr).add j=⟨b,off+j,none⟩:=by unfold Addr.add;split<;>simp_all);rw[hadd,this];rw[List.getElem?_map,List.getElem?_eq_getElem hjl]at hj;simp at hj;rw[←hj];simp[List.getD_eq_getElem?_getD,List.getElem?_eq_getElem hjl]
  · intro u hu
    obtain⟨z,_,rfl⟩:=List.mem_map.1 hu;rfl
  · unfold maxLen;omega
  · omega
  · intro v' w' h5 h6 _
    refine h v' w' ?_ ((Below.refl B w).grown h6 hB (fun k hk=>(World.ownsRow.lt hown k hk).1));unfold Bytes;simpa using h5
theorem bytes_w1(w:World)(n:Nat):Bytes w.heap.size (w.alloc (Obj.cells #[.int .u8 (n:Int)] 5)) (.slice (some ⟨w.heap.size,0,none⟩) 1 1) [n]:=World.ownsRow_lit w #[.int .u8 (n:Int)] 1 (Nat.le_refl _) (by decide) rfl
structure SG(b o area sector:Nat)(W:World):Prop where
 c0:W.cell? ⟨b,o,none⟩=some (.int .u64 (area:Int))
 c1:W.cell? ⟨b,o+1,none⟩=some (.int .i64 (sector:Int))
theorem SG.facts{b o area sector:Nat}{W:World}(h:SG b o area sector W):W.cell? ⟨b,o,none⟩=some (.int .u64 (area:Int))∧W.cell? ⟨b,o+1,none⟩=some (.int .i64 (sector:Int)):=⟨h.c0,h.c1⟩
theorem SG.same{b o area sector:Nat}{W W':World}(h:SG b o area sector W)(hb:W'.heap[b]?=W.heap[b]?):SG b o area sector W':=
 ⟨(World.cell?_of_block (a:=⟨b,o,none⟩) hb).trans h.c0,(World.cell?_of_block (a:=⟨b,o+1,none⟩) hb).trans h.c1⟩
theorem SG.lt{b o area sector:Nat}{W:World}(h:SG b o area sector W):b<W.heap.size:=lt_of_cell h.c0
set_option maxHeartbeats 1000000 in
theorem swrite_any(N p b o area sector:Nat)(d:DS)(fp:List Nat)(v:Value)(xs:List Nat)(w:World)(hd:DiskAt N w p d fp)(hs:SG b o area sector w)(hbf:b∉fp)(hr:RowX fp w v xs)(hx:xs.length≤63)(hN:N<1099511627776):
 Calls Tryz.prog 98 #[.pointer (some ⟨b,o,none⟩),.pointer (some ⟨p,0,none⟩),v] w fun e w'=>e = .returned (.int .i64 (wrE d area sector (xs.length::xs)))∧∃fp',DiskAt (N+1) w' p (wrD d area sector (xs.length::xs)) fp'∧Only fp w w'∧∀k∈fp',k∈fp∨w.heap.size≤k:=by
 obtain⟨ao,cap,rfl,_⟩:=hr.1.shape;have HR:Hid (RowX fp w (.slice ao xs.length cap) xs):=hr;have HD:Hid (DiskAt N w p d fp):=hd;have HS:Hid (SG b o area sector w.drew):=⟨hs.c0,hs.c1⟩;have hlt:=hs.lt;have HLT:Hid (∀k∈fp,k<w.heap.size):=hd.lt;have hwr:IntKind.u8.wrap (xs.length:Int)=(xs.length:Int):=by simp[IntKind.wrap,IntKind.bits,IntKind.signed];omega
 have hxl:(xs.length:Int)<256:=by omega
 clear hr hd hs;go_enter Tryz.func98,Tryz.ntmps98;go_wp2_with fail;refine region_at (S:=SG b o area sector) 17 rfl (by kernel_rfl) HS.out (fun hHeld=>?_);refine tq4 SG.facts 0 7 1 8 2 9 3 10 ?_;simp only[sZa,sZb,sZc];refine tq4 SG.facts 4 11 5 12 6 13 7 14 ?_;simp only[sZa,sZb,sZc];refine tq4 SG.facts 8 15 9 16 10 17 11 18 ?_;simp only[sZa,sZb,sZc];refine tq SG.facts 13 20 ?_;simp only[sZa,sZb,sZc];have hz:w.drew.heap.size=w.heap.size:=rfl;have hSA:SG b o area sector (w.drew.alloc (Obj.cells #[.int .u8 (xs.length:Int)] 5)):=HS.out.same (alloc_old _ _ (by rw[hz];exact hlt));refine one_value (i:=12) (v := .slice (some ⟨w.drew.heap.size,0,none⟩) 1 1) (w':=w.drew.alloc (Obj.cells #[.int .u8 (xs.length:Int)] 5)) 19 (by kernel_rfl) rfl rfl (by rfl) (by go_simp;first|done|exact rfl) hSA (fun hHeld2=>?_);simp only[sZa,sZb,sZc];have B1:Below w.heap.size w (w.drew.alloc (Obj.cells #[.int .u8 (xs.length:Int)] 5)):=(Below.refl _ w).drew.alloc (Nat.le_refl _) _;obtain⟨w1,hw1⟩:∃w1,w.drew.alloc (Obj.cells #[.int .u8 (xs.length:Int)] 5)=w1:=⟨_,rfl⟩;have hBy:Bytes w.heap.size w1 (.slice (some ⟨w.drew.heap.size,0,none⟩) 1 1) [xs.length]:=hw1▸bytes_w1 w.drew xs.length;rw[hw1]at hSA hHeld2 B1;rw[hw1];have hs1:w1.heap.size=w.heap.size+1:=by rw[←hw1];simp
 refine one_at (i:=14) 21 (by kernel_rfl) rfl rfl (by rfl) (fun K hK=>?_);refine wp_append_row (.tmp 19) (.tmp 20) rfl w.heap.size w1.heap.size _ _ [xs.length] xs rfl hBy rfl ((HR.out.1.below B1).mono B1.size) (by simp;omega) (by omega) ?_;intro v2 w2 hby2 hb2;have B2:Below w.heap.size w w2:=B1.trans hb2;have hS2:SG b o area sector w2:=HS.out.same (B2.block b hlt);refine hK _ _ hS2 (fun hHeld3=>?_);simp only[sZa,sZb,sZc];refine one_call (i:=15) (w0:=w2) 22 25 #[.pointer (some ⟨p,0,none⟩),.int .u64 (area:Int),.int .i64 (sector:Int),v2] (by kernel_rfl) rfl rfl (by rfl) (by kernel_rfl) ?_;have hrx:RowX fp w2 v2 (xs.length::xs):=by
  refine⟨hby2.row,fun b' off len cap' e h0 hm=>?_⟩;obtain⟨_,⟨e1,_⟩|⟨g,cap,cur,e1,hg,_⟩⟩:=hby2
  · rw[e1]at e;cases e
  · rw[e1]at e
    simp only[Value.slice.injEq,Option.some.injEq,Addr.mk.injEq]at e;have:=HLT.out b' hm;omega
 refine(Write_any N p d fp (area:Int) (sector:Int) v2 (xs.length::xs) w2 (HD.out.below B2) hrx (by simp;omega) (by omega)).mono ?_;rintro e w3 ⟨rfl,fp',hd3,ho3,hf3⟩;have hS3:SG b o area sector w3:=hS2.same (ho3.block b (by have:=B2.size;omega) hbf);refine⟨_,rfl,hS3,fun hHeld4=>?_⟩;simp only[sZa,sZb,sZc];refine tq SG.facts 16 6 ?_;simp only[sZa,sZb,sZc];refine wpAnyH_done (by kernel_rfl) ?_ _;have HE:Hid (∃fp',DiskAt (N+1) w3 p (wrD d area sector (xs.length::xs)) fp'∧Only fp w w3∧∀k∈fp',k∈fp∨w.heap.size≤k):=by
  have hsz:=B2.size;exact⟨fp',hd3,(Only.of_below B2).trans ho3 fun x hx => .inl hx,fun k hk=>(hf3 k hk).imp id fun h=>by omega⟩
 clear hHeld hHeld2 hHeld3 hHeld4 hSA hS2 hS3 B1 B2 hBy hby2 hb2 hrx hd3 ho3 hf3 hK;go_wp2_with fail;go_ret;exact⟨rfl,HE.out⟩
end Go.Proofs.YthecngkdmnadoaaGreat

namespace Go.Proofs.YthecngkdmnadoaaGreat
open Go.RowKit Go.Shelf
set_option maxRecDepth 100000
shelf_lay_g Lays8.n4 Nm8 4 at Tryz 121 as growB
theorem grow_nilB(n:Nat)(hn:n<17592186044416)(w:World):Calls Tryz.prog 121 #[.slice none 0 0,.int .i64 n] w fun e w'=>∃v,e = .returned v∧Bytes w.heap.size w' v []∧Below w.heap.size w w':=by
 obtain⟨i0,hi,hz0,hz1,hz2⟩:=info_parts infoByte;rcases Nat.eq_zero_or_pos n with rfl|h0
 · refine(Any8.slices_Grow_room growB none 0 0 0 w (Nat.le_refl _) (by omega) (by omega) (by omega)).mono ?_
   rintro e w' ⟨rfl,rfl⟩;exact⟨_,rfl,Bytes.nil _ _,Below.refl _ _⟩
 · refine(Any8.slices_Grow_grow growB i0 (.int .u8 0) hi hz0 (by rw[hz1];decide) none 0 0 n [] w (Nat.le_refl _) (by omega) (by rw[hz2];omega) (by omega) (by simp) (fun _=>rfl) (fun a h=>by cases h)).mono ?_
   rintro e w' ⟨rfl,rfl⟩;refine⟨_,rfl,⟨rfl,.inr ⟨_,_,_,rfl,Nat.le_refl _,alloc_new _ _,Nat.zero_le _,?_,?_,rfl⟩⟩,((Below.refl _ w).drew).alloc (Nat.le_refl _) _⟩
   · exact grownCap_le_maxLen w (0+n) 0 _ (by unfold maxLen;omega)
   · have hge:n≤grownCap w n 0 (growB_ren.t 25):=grownCap_ge w n 0 _
     simp[Builtin.zeroCells,Value.cells];omega
set_option maxHeartbeats 4000000 in
theorem ConcatB_any(w:World)(vb c:Nat)(s1 s2:Value)(xs ys:List Nat)(h1:Row w.heap.size w s1 xs)(h2:Row w.heap.size w s2 ys)(hx:xs.length<8796093022208)(hy:ys.length<8796093022208)(hvb:vb<w.heap.size)
 (c0:w.cell? ⟨vb,0,none⟩=some s1) (c1:w.cell? ⟨vb,1,none⟩=some s2):
 Calls Tryz.prog 97 #[.slice (some ⟨vb,0,none⟩) 2 c] w fun e w'=>∃v,e = .returned v∧Bytes w.heap.size w' v (xs++ys)∧Below w.heap.size w w':=by
 obtain⟨a1,cp1,rfl,_⟩:=h1.shape;obtain⟨a2,cp2,rfl,_⟩:=h2.shape;have H1:Hid (Row w.heap.size w (.slice a1 xs.length cp1) xs):=h1;have H2:Hid (Row w.heap.size w (.slice a2 ys.length cp2) ys):=h2;obtain⟨n1,hn1⟩:∃n1,xs.length=n1:=⟨_,rfl⟩;obtain⟨n2,hn2⟩:∃n2,ys.length=n2:=⟨_,rfl⟩;obtain⟨n3,hn3⟩:∃n3,n1+n2=n3:=⟨_,rfl⟩;have HN1:Hid (xs.length=n1):=hn1;have HN2:Hid (ys.length=n2):=hn2;have hsum:(n1:Int)+(n2:Int)=(n3:Int):=by omega
 have hp1:¬((n1:Int)<0):=by omega
 have hp3:¬((n3:Int)<0):=by omega
 have hn3b:n3<17592186044416:=by omega
 rw[hn1]at c0 H1;rw[hn2]at c1 H2;clear h1 h2 hn1 hn2;go_enter Tryz.func97,Tryz.ntmps97;go_wp2;refine wp_loop_rounds 3 ?_;rw[rounds_succ];go_wp2;rw[rounds_succ];go_wp2;rw[rounds_succ];go_wp2_with (go_at_call 121;refine(grow_nilB n3 hn3b _).mono ?_;rintro e w1 ⟨v,rfl,hr1,hB1⟩);have HR1:Hid (Bytes w.heap.size w1 v []):=hr1;have HB1:Hid (Below w.heap.size w w1):=hB1;have d0:=(hB1.cell (p:=⟨vb,0,none⟩) hvb).trans c0;clear hr1 hB1;refine wp_loop_rounds 3 ?_;rw[rounds_succ];go_wp2_with (at_builtin;refine append_row (by rfl) _ _ rfl w.heap.size w.heap.size _ _ [] xs rfl HR1.out rfl (H1.out.below HB1.out) (by simp;have:=HN1.out;omega) HB1.out.size ?_);intro v2 w2 hr2 hb2 _;have HR2:Hid (Bytes w.heap.size w2 v2 xs):=hr2;have HB2:Hid (Below w.heap.size w w2):=HB1.out.trans hb2;have d1:=(HB2.out.cell (p:=⟨vb,1,none⟩) hvb).trans c1;clear hr2 hb2 d0;go_wp2_with fail;rw[rounds_succ];go_wp2_with (at_builtin;refine append_row (by rfl) _ _ rfl w.heap.size w.heap.size _ _ xs ys rfl HR2.out rfl (H2.out.below HB2.out) (by have:=HN1.out;have:=HN2.out;omega) HB2.out.size ?_);intro v3 w3 hr3 hb3 _;have HR3:Hid (Bytes w.heap.size w3 v3 (xs++ys)):=hr3;have HB3:Hid (Below w.heap.size w w3):=HB2.out.trans hb3;clear hr3 hb3 d1;go_wp2_with fail;rw[rounds_succ];go_wp2_with fail;go_ret;exact⟨v3,rfl,HR3.out,HB3.out⟩
end Go.Proofs.YthecngkdmnadoaaGreat

namespace Go.Proofs.YthecngkdmnadoaaGreat
open Go.RowKit Go.Shelf
set_option maxRecDepth 100000
structure LayR where
 d:DS
 sector:Nat
 tail:Option (List Nat)
 e:Int
def layF(area:Nat):Nat→DS→Nat→List Nat→LayR
 |0,d,s,left=>⟨d,s,some left,0⟩
 |f+1,d,s,left=>if 63≤left.length then
  (if wrE d area s (63::left.take 63)=0 then layF area f (wrD d area s (63::left.take 63)) (s+1) (left.drop 63)else ⟨wrD d area s (63::left.take 63),s,none,wrE d area s (63::left.take 63)⟩)
  else if left=[]then ⟨d,s,some [],0⟩else ⟨wrD d area s (left.length::left),s,some left,wrE d area s (left.length::left)⟩
def layR(d:DS)(area sector:Nat)(left:List Nat):LayR:=layF area (left.length+1) d sector left
theorem layF_go{area f s:Nat}{d:DS}{left:List Nat}(h:63≤left.length)(he:wrE d area s (63::left.take 63)=0):layF area (f+1) d s left=layF area f (wrD d area s (63::left.take 63)) (s+1) (left.drop 63):=by rw[layF,if_pos h,if_pos he]
theorem layF_bad{area f s:Nat}{d:DS}{left:List Nat}(h:63≤left.length)(he:¬wrE d area s (63::left.take 63)=0):layF area (f+1) d s left=⟨wrD d area s (63::left.take 63),s,none,wrE d area s (63::left.take 63)⟩:=by rw[layF,if_pos h,if_neg he]
theorem layF_nil{area f s:Nat}{d:DS}:layF area (f+1) d s []=⟨d,s,some [],0⟩:=by rw[layF,if_neg (by simp),if_pos rfl]
theorem layF_end{area f s:Nat}{d:DS}{left:List Nat}(h:¬63≤left.length)(h0:left≠[]):layF area (f+1) d s left=⟨wrD d area s (left.length::left),s,some left,wrE d area s (left.length::left)⟩:=by rw[layF,if_neg h,if_neg h0]
def segC(C:Array Value)(o area sector:Nat)(t:Value):Array Value:=((C.setIfInBounds o (.int .u64 (area:Int))).setIfInBounds (o+1) (.int .i64 (sector:Int))).setIfInBounds (o+2) t
structure SegAt(W:World)(b o:Nat)(C:Array Value)(T:TypeId)(area sector:Nat)(t:Value):Prop where
 sz:o+2<C.size
 hb:W.heap[b]?=some (.cells (segC C o area sector t) T (0,0))
theorem SegAt.cells{W:World}{b o:Nat}{C:Array Value}{T:TypeId}{area sector:Nat}{t:Value}(h:SegAt W b o C T area sector t):
 W.cell? ⟨b,o,none⟩=some (.int .u64 (area:Int))∧W.cell? ⟨b,o+1,none⟩=some (.int .i64 (sector:Int))∧W.cell? ⟨b,o+2,none⟩=some t∧∀k,W.frozen? ⟨b,k,none⟩=false:=by
 obtain⟨sz,hb⟩:=h;have s1:o<C.size:=by omega
 have s2:o+1<C.size:=by omega
 refine⟨?_,?_,?_,fun k=>?_⟩
 · simp only[World.cell?,hb,segC,Array.getElem?_setIfInBounds]
   simp[s1]
 · simp only[World.cell?,hb,segC,Array.getElem?_setIfInBounds]
   simp[s2]
 · simp only[World.cell?,hb,segC,Array.getElem?_setIfInBounds]
   simp[sz]
 · simp[World.frozen?,hb]
theorem SegAt.lt{W:World}{b o:Nat}{C:Array Value}{T:TypeId}{area sector:Nat}{t:Value}(h:SegAt W b o C T area sector t):b<W.heap.size:=(Array.getElem?_eq_some_iff.1 h.hb).1
theorem SegAt.same{W W':World}{b o:Nat}{C:Array Value}{T:TypeId}{area sector:Nat}{t:Value}(h:SegAt W b o C T area sector t)(hb:W'.heap[b]?=W.heap[b]?):SegAt W' b o C T area sector t:=⟨h.sz,hb.trans h.hb⟩
theorem SegAt.sg{W:World}{b o:Nat}{C:Array Value}{T:TypeId}{area sector:Nat}{t:Value}(h:SegAt W b o C T area sector t):SG b o area sector W:=⟨h.cells.1,h.cells.2.1⟩
theorem setIn_comm(C:Array Value){i j:Nat}(u v:Value)(h:i≠j):(C.setIfInBounds i u).setIfInBounds j v=(C.setIfInBounds j v).setIfInBounds i u:=by
 apply Array.ext_getElem?;intro k;simp only[Array.getElem?_setIfInBounds,Array.size_setIfInBounds];by_cases h1:i=k
 · subst h1
   simp[Ne.symm h]
 · by_cases h2:j=k
   · subst h2;simp[h]
   · simp[h1,h2]
theorem setIn_set(C:Array Value)(i:Nat)(u v:Value):(C.setIfInBounds i u).setIfInBounds i v=C.setIfInBounds i v:=by
 apply Array.ext_getElem?;intro k;simp only[Array.getElem?_setIfInBounds,Array.size_setIfInBounds];by_cases h1:i=k
 · subst h1;simp
 · simp[h1]
theorem SegAt.sector{W:World}{b o:Nat}{C:Array Value}{T:TypeId}{area sector:Nat}{t:Value}(h:SegAt W b o C T area sector t)(s:Nat):SegAt (W.setCell ⟨b,o+1,none⟩ (.int .i64 (s:Int))) b o C T area s t:=by
 refine⟨h.sz,?_⟩;rw[set_cell h.hb,segC,segC,setIn_comm _ _ _ (by omega),setIn_set]
theorem SegAt.tail{W:World}{b o:Nat}{C:Array Value}{T:TypeId}{area sector:Nat}{t:Value}(h:SegAt W b o C T area sector t)(u:Value):SegAt (W.setCell ⟨b,o+2,none⟩ u) b o C T area sector u:=by
 refine⟨h.sz,?_⟩;rw[set_cell h.hb,segC,segC,setIn_set]
def NewRow(n0:Nat)(fp:List Nat)(w:World)(v:Value)(xs:List Nat):Prop:=RowX fp w v xs∧∀g off len cap,v = .slice (some ⟨g,off,none⟩) len cap→0<xs.length→n0≤g
end Go.Proofs.YthecngkdmnadoaaGreat

namespace Go.Proofs.YthecngkdmnadoaaGreat
open Go.RowKit Go.Shelf
set_option maxRecDepth 100000
theorem RowX.at{fp:List Nat}{w:World}{ad:Option Addr}{n cap:Nat}{xs:List Nat}(h:RowX fp w (.slice ad n cap) xs)(h0:0<n):∃g off,ad=some ⟨g,off,none⟩∧n=xs.length∧n≤cap∧g<w.heap.size∧g∉fp∧∀i,i<n→w.cell? ⟨g,off+i,none⟩=some (bv (xs.getD i 0)):=by
 obtain⟨⟨ao,cp,e,hcap,hno,hc⟩,hx⟩:=h;simp only[Value.slice.injEq]at e;obtain⟨rfl,h2,rfl⟩:=e;obtain⟨g,off,rfl,hg,hd⟩:=hc (by omega);exact⟨g,off,rfl,h2,by omega,hg,hx g off _ _ rfl (by omega),fun i hi=>hd i (by omega)⟩
theorem RowX.take{fp:List Nat}{w:World}{g off n cap:Nat}{xs:List Nat}(h:RowX fp w (.slice (some ⟨g,off,none⟩) n cap) xs)(h0:0<n)(k:Nat)(hk:k≤n):RowX fp w (.slice (some ⟨g,off,none⟩) k cap) (xs.take k):=by
 obtain⟨g',off',e,h2,h3,h4,h5,h6⟩:=h.at h0;simp only[Option.some.injEq,Addr.mk.injEq]at e;obtain⟨rfl,rfl,_⟩:=e;have hl:(xs.take k).length=k:=by rw[List.length_take];omega
 refine⟨⟨some ⟨g,off,none⟩,cap,by rw[hl],by omega,(fun h=>by cases h),fun _=>⟨g,off,rfl,h4,fun i hi=>?_⟩⟩,fun b o len c e h0=>?_⟩
 · rw[hl]at hi
   rw[h6 i (by omega)];simp[List.getD_eq_getElem?_getD,hi]
 · simp only[Value.slice.injEq,Option.some.injEq,Addr.mk.injEq]at e
   rw[←e.1.1];exact h5
theorem RowX.drop{fp:List Nat}{w:World}{g off n cap:Nat}{xs:List Nat}(h:RowX fp w (.slice (some ⟨g,off,none⟩) n cap) xs)(h0:0<n)(k:Nat)(hk:k≤n)(ad:Option Addr)(c:Nat)(had:(n=k∧ad≠none)∨(ad=some ⟨g,off+k,none⟩))(hc:n-k≤c):RowX fp w (.slice ad (n-k) c) (xs.drop k):=by
 obtain⟨g',off',e,h2,h3,h4,h5,h6⟩:=h.at h0;simp only[Option.some.injEq,Addr.mk.injEq]at e;obtain⟨rfl,rfl,_⟩:=e;have hl:(xs.drop k).length=n-k:=by rw[List.length_drop];omega
 refine⟨⟨ad,c,by rw[hl],by omega,fun h=>?_,fun hp=>?_⟩,fun b o len c2 e h0=>?_⟩
 · rcases had with⟨_,h1⟩|h1
   · exact absurd h h1
   · rw[h]at h1;cases h1
 · rw[hl]at hp
   rcases had with⟨h1,_⟩|rfl
   · omega
   · refine⟨g,off+k,rfl,h4,fun i hi=>?_⟩
     rw[hl]at hi;rw[Nat.add_assoc,h6 (k+i) (by omega)];simp[List.getD_eq_getElem?_getD,List.getElem?_drop]
 · rw[hl]at h0
   rcases had with⟨h1,_⟩|rfl
   · omega
   · simp only[Value.slice.injEq,Option.some.injEq,Addr.mk.injEq]at e
     rw[←e.1.1];exact h5
theorem RowX.mono{fp fp':List Nat}{w:World}{v:Value}{xs:List Nat}(h:RowX fp w v xs)(hs:∀x∈fp',x∈fp∨w.heap.size≤x):RowX fp' w v xs:=by
 refine⟨h.1,fun b off len cap e h0 hb=>?_⟩;rcases hs b hb with h1|h1
 · exact h.2 b off len cap e h0 h1
 · obtain⟨ao,cp,e2,_,_,hc⟩:=h.1
   rw[e]at e2;simp only[Value.slice.injEq]at e2;obtain⟨g,o,e3,hg,_⟩:=hc h0;rw[e3]at e2;simp only[Option.some.injEq,Addr.mk.injEq]at e2;omega
structure LayAt(w0:World)(p b o:Nat)(C:Array Value)(T:TypeId)(area:Nat)(tv:Value)(fp0:List Nat)(R:LayR)(M:Nat)(W:World)(f N s:Nat)(d:DS)(fp:List Nat)(ad:Option Addr)(n cap:Nat)(left:List Nat):Prop where
 disk:DiskAt N W p d fp
 seg:SegAt W b o C T area s tv
 out:b∉fp
 row:RowX (b::fp) W (.slice ad n cap) left
 new:∀g off,ad=some ⟨g,off,none⟩→0<n→w0.heap.size≤g
 only:Only (b::fp0) w0 W
 fps:∀k∈fp,k∈fp0∨w0.heap.size≤k
 len:left.length=n
 eq:layF area f d s left=R
 fuel:n<f
 bnd:N+n≤M
 sec:s+n≤140737488355328
theorem Only.more{fp:List Nat}{w w':World}(h:Only fp w w')(b:Nat):Only (b::fp) w w':=⟨h.os,h.tape,h.output,h.size,fun k hk hn=>h.block k hk fun hx=>hn (List.mem_cons_of_mem _ hx)⟩
theorem LayAt.keep{w0:World}{p b o:Nat}{C:Array Value}{T:TypeId}{area:Nat}{tv:Value}{fp0:List Nat}{R:LayR}{M:Nat}{W:World}{f N s:Nat}{d:DS}{fp:List Nat}{ad:Option Addr}{n cap:Nat}{left:List Nat}(H:LayAt w0 p b o C T area tv fp0 R M W f N s d fp ad n cap left){w2:World}{fp2:List Nat}(ho:Only fp W w2)(hf:∀k∈fp2,k∈fp∨W.heap.size≤k):
 SegAt w2 b o C T area s tv∧b∉fp2∧RowX (b::fp2) w2 (.slice ad n cap) left∧Only (b::fp0) w0 w2∧(∀k∈fp2,k∈fp0∨w0.heap.size≤k):=by
 have hbl:=H.seg.lt;have r0:RowX (b::fp2) W (.slice ad n cap) left:=H.row.mono fun k hk=>by
  rcases List.mem_cons.1 hk with h|h
  · exact .inl (by rw[h];exact List.mem_cons_self ..)
  · rcases hf k h with h1|h1
    · exact .inl (List.mem_cons_of_mem _ h1)
    · exact .inr h1
 have r1:=H.row.only (ho.more b);refine⟨H.seg.same (ho.block b hbl H.out),fun hb2=>?_,⟨r1.1,r0.2⟩,H.only.trans ho (fun k hk=>by rcases H.fps k hk with h|h;exact .inl (List.mem_cons_of_mem _ h);exact .inr h),fun k hk=>?_⟩
 · rcases hf b hb2 with h|h
   · exact H.out h
   · omega
 · rcases hf k hk with h|h
   · exact H.fps k h
   · exact .inr (Nat.le_trans H.only.size h)
set_option maxHeartbeats 2000000 in
theorem lay_any(N p b o:Nat)(C:Array Value)(T:TypeId)(area sector:Nat)(tv xv:Value)(tl x:List Nat)(d:DS)(fp:List Nat)(w:World)(hd:DiskAt N w p d fp)(hs:SegAt w b o C T area sector tv)(hbf:b∉fp)(ht:Row w.heap.size w tv tl)(hx:Row w.heap.size w xv x)
 (hl1:tl.length<549755813888) (hl2:x.length<549755813888) (hN:N<274877906944) (hl3:tl.length+x.length<274877906944) (hsec:sector≤1099511627776):
 Calls Tryz.prog 76 #[.pointer (some ⟨b,o,none⟩),.pointer (some ⟨p,0,none⟩),xv] w fun e w'=>e = .returned (.int .i64 (layR d area sector (tl++x)).e)∧∃fp' tv',DiskAt (N+(tl++x).length+1) w' p (layR d area sector (tl++x)).d fp'∧SegAt w' b o C T area (layR d area sector (tl++x)).sector tv'∧((layR d area sector (tl++x)).tail=none→tv'=tv)∧(∀t,(layR d area sector (tl++x)).tail=some t→NewRow w.heap.size (b::fp') w' tv' t)∧Only (b::fp) w w'∧(∀k∈fp',k∈fp∨w.heap.size≤k)∧b∉fp':=by
 obtain⟨R,hR⟩:∃R,layR d area sector (tl++x)=R:=⟨_,rfl⟩;rw[hR];obtain⟨M,hM⟩:∃M,N+(tl++x).length=M:=⟨_,rfl⟩;rw[hM];obtain⟨ta,tc,rfl,_⟩:=ht.shape;obtain⟨xa,xc,rfl,_⟩:=hx.shape;obtain⟨c0,c1,c2,cz⟩:=hs.cells;have hbl:=hs.lt
 have HW0:Hid (∀oo,Row (w.alloc oo).heap.size (w.alloc oo) (.slice ta tl.length tc) tl∧Row (w.alloc oo).heap.size (w.alloc oo) (.slice xa x.length xc) x∧Below w.heap.size w (w.alloc oo)):=fun oo=>
  ⟨(ht.below ((Below.refl _ w).alloc (Nat.le_refl _) oo)).mono (by simp),(hx.below ((Below.refl _ w).alloc (Nat.le_refl _) oo)).mono (by simp),(Below.refl _ w).alloc (Nat.le_refl _) oo⟩
 have HD:Hid (DiskAt N w p d fp):=hd;have HS:Hid (SegAt w b o C T area sector (.slice ta tl.length tc)):=hs;have HBF:Hid (b∉fp):=hbf;have HR:Hid (layR d area sector (tl++x)=R):=hR;have HM:Hid (N+(tl++x).length=M):=hM;clear hd hs hbf ht hx hR hM;go_enter Tryz.func76,Tryz.ntmps76;go_wp2_with (go_at_call 97;refine(ConcatB_any _ _ _ _ _ tl x (HW0.out _).1 (HW0.out _).2.1 (by omega) (by omega) (by simp) (by simp) (by simp)).mono ?_;rintro e w1 ⟨v1,rfl,ho1,hb1⟩);have HB1:Hid (Below w.heap.size w w1):=(HW0.out _).2.2.trans (hb1.mono (HW0.out _).2.2.size);have HO1:Hid (Bytes w.heap.size w1 v1 (tl++x)):=ho1.mono (HW0.out _).2.2.size;clear ho1 hb1;obtain⟨ad1,cap1,rfl,_⟩:=HO1.out.row.shape;obtain⟨n1,hn1⟩:∃n1,(tl++x).length=n1:=⟨_,rfl⟩;have HST:Hid (LayAt w p b o C T area (.slice ta tl.length tc) fp R M w1 (n1+1) N sector d fp ad1 n1 cap1 (tl++x)):=by
  have hfp:=HD.out.lt;have hnew:∀g off,ad1=some ⟨g,off,none⟩→w.heap.size≤g:=fun g off e=>by
   obtain⟨_,⟨e2,_⟩|⟨g2,c2,cur,e2,h1,_⟩⟩:=HO1.out
   · rw[e]at e2;cases e2
   · rw[e]at e2
     simp only[Value.slice.injEq,Option.some.injEq,Addr.mk.injEq]at e2;omega
  have hrow:=HO1.out.row;rw[hn1]at hrow;refine⟨HD.out.below HB1.out,HS.out.same (HB1.out.block b hbl),HBF.out,⟨hrow,fun g off len cap e h0 hm=>?_⟩,fun g off e _=>hnew g off e,Only.of_below HB1.out,fun k hk => .inl hk,hn1,?_,by omega,?_,?_⟩
  · simp only[Value.slice.injEq]at e
    have h1:=hnew g off e.1;rcases List.mem_cons.1 hm with h2|h2
    · omega
    · have:=hfp g h2;omega
  · rw[←HR.out,layR,hn1]
  · have:=HM.out;omega
  · rw[List.length_append]at hn1;omega
 have hn1b:n1<274877906944:=by rw[List.length_append]at hn1;omega
 have hMb:M<549755813888:=by have:=HM.out;omega
 rw[hn1];have HLE:Hid (∀W,Only (b::fp) w W→Only (b::fp) w W):=fun _ h=>h
 clear HO1 HB1 HW0 HD HS HBF hn1 c0 c1 c2 cz HR HM HLE;go_wp2
 go_loopg [7,8] n1 (fun g s7 _ wr=>∃(f N' s:Nat) (d':DS) (fp':List Nat) (ad:Option Addr) (n cap:Nat) (left:List Nat),s7 = .slice ad n cap∧n≤g∧n≤n1∧Hid (LayAt w p b o C T area (.slice ta tl.length tc) fp R M wr f N' s d' fp' ad n cap left))
 case atStart=>exact⟨n1+1,N,sector,d,fp,ad1,n1,cap1,tl++x,rfl,Nat.le_refl _,Nat.le_refl _,HST⟩
 case round=>
  clear HST;obtain⟨f,N',s,d',fp',ad,n,cap,left,rfl,hg,hn,H⟩:=hrel;by_cases h63:63≤n
  · have h63z:(63:Int)≤(n:Int):=by omega
    obtain⟨g,off,rfl,e1,e2,hgl,hgf,hcell⟩:=H.out.row.at (by omega);have hsec:s+n≤140737488355328:=H.out.sec;have hbnd:N'+n≤M:=H.out.bnd;(have hlen:(left.take 63).length=63:=by rw[List.length_take];omega);(have hcap:63≤cap:=by omega);have hwr:=swrite_any N' p b o area s d' fp' (.slice (some ⟨g,off,none⟩) 63 cap) (left.take 63) wr H.out.disk H.out.seg.sg H.out.out ((H.out.row.take (by omega) 63 h63).mono fun k hk => .inl (List.mem_cons_of_mem _ hk)) (by omega) (by omega);rw[hlen]at hwr;obtain⟨F,hF⟩:∃F,f=F+1:=⟨f-1,by have:=H.out.fuel;omega⟩;have HSG:Hid (∀W2 fp2,Only fp' wr W2→(∀k∈fp2,k∈fp'∨wr.heap.size≤k)→W2.cell? ⟨b,o+1,none⟩=some (.int .i64 (s:Int))∧W2.frozen? ⟨b,o+1,none⟩=false):=fun W2 fp2 h1 h2=>by
     obtain⟨k1,_⟩:=H.out.keep h1 h2;exact⟨k1.cells.2.1,k1.cells.2.2.2 _⟩
    by_cases he:wrE d' area s (63::left.take 63)=0
    · have HRR:Hid (layF area F (wrD d' area s (63::left.take 63)) (s+1) (left.drop 63)=R):=by show _=_;rw[←H.out.eq,hF,layF_go (by omega) he]
      (have HFU:Hid (n-63<F):=by have:=H.out.fuel;show _<_;omega);rw[he]at hwr;clear hcell he hF e1;go_wp2_with (go_at_call 98;refine hwr.mono ?_;rintro e w2 ⟨rfl,fp2,hd2,ho2,hf2⟩;obtain⟨q1,qz⟩:=HSG.out w2 fp2 ho2 hf2)
      all_goals
       (have hes:((s:Int)+1)=((s+1:Nat):Int):=by omega);obtain⟨k1,k2,k3,k4,k5⟩:=H.out.keep ho2 hf2;have hone:=one_setCell w2 b (o+1) (.int .i64 ((s:Int)+1));go_roundg (n-63);case measure=>omega
       case rel=>
        refine⟨F,N'+1,s+1,wrD d' area s (63::left.take 63),fp2,_,n-63,_,left.drop 63,rfl,Nat.le_refl _,by omega,(show Hid _ from⟨?_,?_,k2,?_,?_,?_,k5,?_,HRR.out,HFU.out,by omega,by omega⟩)⟩
        · exact hd2.same fun b' hb'=>hone.block b' (fun e=>k2 (e▸hb'))
        · have:=k1.sector (s+1)
          rw[←hes]at this;exact this
        · refine RowX.only ?_ (Only.of_one hone (List.mem_cons_self ..))
          exact k3.drop (by omega) 63 h63 _ _ (by first|exact .inr rfl|exact .inl ⟨by omega,by simp⟩) (by omega)
        · intro g2 off2 e h0
          simp only[Option.some.injEq,Addr.mk.injEq]at e;rw[←e.1];exact H.out.new g off rfl (by omega)
        · exact k4.trans (Only.of_one (fp:=[b]) hone (List.mem_cons_self ..)) (fun k hk => .inl (by rw[List.mem_singleton.1 hk];exact List.mem_cons_self ..))
        · rw[List.length_drop];have:=H.out.len;omega
    · have heb:(wrE d' area s (63::left.take 63)==0)=false:=beq_eq_false_iff_ne.2 he
      (have HRR:Hid (R=⟨wrD d' area s (63::left.take 63),s,none,wrE d' area s (63::left.take 63)⟩):=by show _=_;rw[←H.out.eq,hF,layF_bad (by omega) he]);clear hcell he hF e1;generalize hEe:wrE d' area s (63::left.take 63)=E at hwr heb HRR;clear hEe;go_wp2_with (go_at_call 98;refine hwr.mono ?_;rintro e w2 ⟨rfl,fp2,hd2,ho2,hf2⟩);go_ret;rw[HRR.out];obtain⟨k1,k2,_,k4,k5⟩:=H.out.keep ho2 hf2;exact⟨rfl,fp2,_,hd2.mono (by omega),k1,fun _=>rfl,(fun t h=>by cases h),k4,k5,k2⟩
  · have h63z:¬(63:Int)≤(n:Int):=by omega
    obtain⟨k0,k1,k2,kz⟩:=H.out.seg.cells;have kf:=kz (o+2);have hbl2:b<wr.heap.size:=H.out.seg.lt;have hbnd:N'+n≤M:=H.out.bnd;obtain⟨F,hF⟩:∃F,f=F+1:=⟨f-1,by have:=H.out.fuel;omega⟩;have hone:=one_setCell wr b (o+2) (.slice ad n cap);(have HDK:Hid (DiskAt N' (wr.setCell ⟨b,o+2,none⟩ (.slice ad n cap)) p d' fp'):=H.out.disk.same fun b' hb'=>hone.block b' (fun e=>H.out.out (e▸hb')));have HSG:Hid (SegAt (wr.setCell ⟨b,o+2,none⟩ (.slice ad n cap)) b o C T area s (.slice ad n cap)):=H.out.seg.tail _;have HRW:Hid (RowX (b::fp') (wr.setCell ⟨b,o+2,none⟩ (.slice ad n cap)) (.slice ad n cap) left):=H.out.row.only (Only.of_one hone (List.mem_cons_self ..));have HON:Hid (Only (b::fp) w (wr.setCell ⟨b,o+2,none⟩ (.slice ad n cap))):=H.out.only.trans (Only.of_one (fp:=[b]) hone (List.mem_cons_self ..)) (fun k hk => .inl (by rw[List.mem_singleton.1 hk];exact List.mem_cons_self ..));clear hone;by_cases h0:n=0
    · have hl0:left=[]:=List.eq_nil_of_length_eq_zero (by have:=H.out.len;omega)
      (have HRR:Hid (R=⟨d',s,some [],0⟩):=by show _=_;rw[←H.out.eq,hF,hl0,layF_nil]);have HL0:Hid (left=[]):=hl0;have h0b:((n:Int)==0)=true:=beq_iff_eq.2 (by omega);clear hl0 hF;subst h0;go_wp2;go_ret;rw[HRR.out];refine⟨rfl,fp',HDK.out.mono (by omega),_,HSG.out,(fun h=>by cases h),fun t ht=>?_,HON.out,H.out.fps,H.out.out⟩;simp only[Option.some.injEq]at ht;subst ht;have hr:=HRW.out;rw[HL0.out]at hr;exact⟨hr,fun g off len cap e hp=>by simp at hp⟩
    · have h0b:((n:Int)==0)=false:=beq_eq_false_iff_ne.2 (by omega)
      have hlen:=H.out.len;(have hln:left≠[]:=fun e=>by rw[e]at hlen;simp at hlen;omega);(have HRR:Hid (R=⟨wrD d' area s (n::left),s,some left,wrE d' area s (n::left)⟩):=by show _=_;rw[←H.out.eq,hF,layF_end (by omega) hln,hlen]);have hwr:=swrite_any N' p b o area s d' fp' (.slice ad n cap) left _ HDK.out HSG.out.sg H.out.out (HRW.out.mono fun k hk => .inl (List.mem_cons_of_mem _ hk)) (by omega) (by omega);rw[hlen]at hwr;generalize hEe:wrE d' area s (n::left)=E at hwr HRR;clear hEe hln hF hlen;obtain⟨w4,hw4⟩:∃w4,w4=wr.setCell ⟨b,o+2,none⟩ (.slice ad n cap):=⟨_,rfl⟩;rw[←hw4]at hwr HDK HSG HRW HON;go_wp2_with (go_at_call 98;rw[←hw4];refine hwr.mono ?_;rintro e w2 ⟨rfl,fp2,hd2,ho2,hf2⟩);go_ret;rw[HRR.out];have hbl4:=HSG.out.lt;have r0:RowX (b::fp2) w4 (.slice ad n cap) left:=HRW.out.mono fun k hk=>by
       rcases List.mem_cons.1 hk with h|h
       · exact .inl (by rw[h];exact List.mem_cons_self ..)
       · rcases hf2 k h with h1|h1
         · exact .inl (List.mem_cons_of_mem _ h1)
         · exact .inr h1
      have r1:=HRW.out.only (ho2.more b);refine⟨rfl,fp2,_,hd2.mono (by omega),HSG.out.same (ho2.block b hbl4 H.out.out),(fun h=>by cases h),fun t ht=>?_,HON.out.trans ho2 (fun k hk=>by rcases H.out.fps k hk with h|h;exact .inl (List.mem_cons_of_mem _ h);exact .inr h),fun k hk=>?_,fun hb2=>?_⟩
      · simp only[Option.some.injEq]at ht
        subst ht;exact⟨⟨r1.1,r0.2⟩,fun g off len c e hp=>by
         simp only[Value.slice.injEq]at e;exact H.out.new g off e.1 (by omega)⟩
      · rcases hf2 k hk with h|h
        · exact H.out.fps k h
        · exact .inr (Nat.le_trans HON.out.size h)
      · rcases hf2 b hb2 with h|h
        · exact H.out.out h
        · omega
end Go.Proofs.YthecngkdmnadoaaGreat
