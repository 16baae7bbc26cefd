/- Texts that were written apart, joined. -/
import Derived.Test.YthecngkdmnadoaaGreatG43
import Derived.Test.YthecngkdmnadoaaGreatG40
import Derived.Test.YthecngkdmnadoaaGreatG37
import Derived.Test.YthecngkdmnadoaaGreatG23
import Derived.Test.YthecngkdmnadoaaGreatRows
import Derived.Deep.Strs
import Derived.Lib.SmallJoins
namespace Go.Proofs.YthecngkdmnadoaaGreat
open Go.RowKit
set_option maxRecDepth 100000
theorem Only.of_grown2{w w':World}{v:Value}(h:w.grownBy w' v.ownBlock):Only v.ownBlock.toList w w':=by
 obtain⟨h1,h2,h3,h4,h5⟩:=h;exact⟨h1,h2,h3,h4,fun k hk hm=>h5 k hk (fun e=>hm (by rw[←e];exact List.mem_singleton.2 rfl))⟩
theorem MemX.noB{F:List Nat}{w:World}{x:Nat×Value}{r:SR}(h:MemX F w x r):∀u∈wC x,NoB u:=by
 refine wC_noB x fun n e=>?_
 obtain⟨⟨ao,cap,e2,_⟩,_⟩:=h.2;rw[e2]at e;unfold bv at e;cases e
theorem was_run{F:List Nat}{B:Nat}{W:World}{v:Value}{M:List SR}{x:Nat×Value}{r:SR}(h:WasX F B W v M)(hcl:CleanB W v)(hx:MemX (F++v.ownBlock.toList) W x r)(hB:B≤W.heap.size)(hF:∀k∈F,k<W.heap.size)(hM:M.length<1099511627776)(ty:TypeId)(c:Nat):
 ∃v' w',(Builtin.append_ #[48,48] ty #[v,.slice (some ⟨W.heap.size,0,none⟩) 1 c]).run Tryz.prog (W.alloc (.cells #[.int .u64 (x.1:Int),x.2] 33)) = .ok v' w'∧WasX F B w' v' (M++[r])∧CleanB w' v'∧Only v.ownBlock.toList W w'∧∀k∈v'.ownBlock.toList,k∈v.ownBlock.toList∨W.heap.size≤k:=by
 have hb:Below W.heap.size W (W.alloc (.cells #[.int .u64 (x.1:Int),x.2] 33)):=(Below.refl _ W).alloc (Nat.le_refl _) _;have hw:=h.below hb;obtain⟨xs,h1,h2,h3,h4⟩:=hw;have hsz:(W.alloc (.cells #[.int .u64 (x.1:Int),x.2] 33)).heap.size=W.heap.size+1:=by simp
 have hcells:∀j u,(wC x)[j]?=some u→(W.alloc (.cells #[.int .u64 (x.1:Int),x.2] 33)).cell? ⟨W.heap.size,j,none⟩=some u:=by
  intro j u hj;have:=alloc_newQ W (.cells #[.int .u64 (x.1:Int),x.2] 33);unfold World.cell?;rw[this];simpa[wC]using hj
 have hcl1:CleanB (W.alloc (.cells #[.int .u64 (x.1:Int),x.2] 33)) v:=by
  intro g hg cur T m hh u hu;have hgl:=(h.lt g (by rw[hg];exact List.mem_singleton.2 rfl)).1;rw[alloc_old W _ hgl]at hh;exact hcl g hg cur T m hh u hu
 have hlen:(xs.map wC).length<1099511627776:=by rw[List.length_map,h1];exact hM
 obtain⟨v',w',q1,q2,q3,q4⟩:=gappend_run rty_W h3 (by omega) hx.cells hcells hlen ty c;have hcl2:=append_clean h3 hcl1 hx.cells hx.noB hcells hlen ty c q1;have hown:=Only.of_grown2 q3;have hoW:Only v.ownBlock.toList W w':=(Only.of_below hb).then hown (fun _ h=>h);have hsub:∀k∈v'.ownBlock.toList,k∈v.ownBlock.toList∨W.heap.size≤k:=by
  intro k hk;rcases q4 with e|⟨g,e,hg⟩
  · rw[e]at hk;exact .inl hk
  · rw[e]at hk
    (have:k=g:=by simpa using hk);exact .inr (by omega)
 refine⟨v',w',q1,⟨xs++[x],by rw[List.length_append,List.length_append,h1];rfl,fun i y q hy hq=>?_,by rw[List.map_append];exact q2,fun k hk hm=>?_⟩,hcl2,hoW,hsub⟩
 · have hstep:∀y q,MemX (F++v.ownBlock.toList) W y q→MemX (F++v'.ownBlock.toList) w' y q:=fun y q hm=>⟨hm.1,hm.2.step (hoW.wider (fun k hk=>List.mem_append_right _ hk)) (fun k hk=>by
    rcases List.mem_append.1 hk with h5|h5
    · exact .inl (List.mem_append_left _ h5)
    · exact(hsub k h5).imp (fun h=>List.mem_append_right _ h) id)⟩
   by_cases hi:i<xs.length
   · rw[List.getElem?_append_left hi]at hy
     rw[List.getElem?_append_left (by omega)]at hq;obtain⟨ys,k1,k2,k3,k4⟩:=h;have:=h2 i y q hy hq;refine⟨this.1,this.2.step (hown.wider (fun k hk=>List.mem_append_right _ hk)) (fun k hk=>?_)⟩;rcases List.mem_append.1 hk with h5|h5
     · exact .inl (List.mem_append_left _ h5)
     · rcases q4 with e|⟨g,e,hg⟩
       · rw[e]at h5;exact .inl (List.mem_append_right _ h5)
       · rw[e]at h5
         (have:k=g:=by simpa using h5);exact .inr (by omega)
   · have hi2:i=xs.length:=by
      have:=(List.getElem?_eq_some_iff.1 hy).1;rw[List.length_append,List.length_singleton]at this;omega
     subst hi2;(have e1:x=y:=by simpa using hy);(have e2:r=q:=by rw[h1]at hq;simpa using hq);subst e1 e2;exact hstep x r hx
 · rcases hsub k hk with h5|h5
   · exact h4 k h5 hm
   · have:=hF k hm;omega
end Go.Proofs.YthecngkdmnadoaaGreat

namespace Go.Proofs.YthecngkdmnadoaaGreat
open Go.RowKit
set_option maxRecDepth 100000
theorem lastz_is{W0:World}{N b p:Nat}{g:LG}{v:WV}{fp:List Nat}{s:List Sv}(hs:g.first+g.L.length<4611686018427387904):∃la:Int,IntKind.u64.wrap (((g.first+g.L.length:Nat):Int)-1)=la∧IntKind.u64.wrap (la+1)=((g.first+g.L.length:Nat):Int)∧0≤la∧la<18446744073709551616∧∀W,Since W0 N W b p g v fp s→Calls Tryz.prog 30 #[.pointer (some ⟨b,0,none⟩)] W fun e w'=>e = .returned (.int .u64 la)∧∃k,w'=W.drewN k:=by
 refine⟨IntKind.u64.wrap (((g.first+g.L.length:Nat):Int)-1),rfl,?_,?_,?_,fun W hW=>last_since hW hs _ rfl⟩
 all_goals
  simp only[IntKind.wrap,IntKind.bits,IntKind.signed];simp;omega
set_option maxHeartbeats 4000000 in
theorem all5_any(W0:World)(N b p:Nat)(g:LG)(v:WV)(fp:List Nat)(s:List Sv)(w:World)(h:Since W0 N w b p g v fp s)(hs:g.first+g.L.length<1099511627776)(hx:∀xs∈g.L,xs.length≤140737488355328):
 Calls Tryz.prog 18 #[.pointer (some ⟨b,0,none⟩)] w fun e w'=>Below w.heap.size w w'∧∃sv,e = .returned sv∧StrOwn w.heap.size w' sv g.L:=by
 obtain⟨la,-,hla,hla0,hla1,hlast⟩:=lastz_is (W0:=W0) (N:=N) (b:=b) (p:=p) (g:=g) (v:=v) (fp:=fp) (s:=s) (by omega);have HLA:Hid (∀W,Since W0 N W b p g v fp s→Calls Tryz.prog 30 #[.pointer (some ⟨b,0,none⟩)] W fun e w'=>e = .returned (.int .u64 la)∧∃k,w'=W.drewN k):=hlast;have HS:Hid (Since W0 N w b p g v fp s):=h;have HGT:Hid (∀W (j ij:Nat),g.first+j=ij→Since W0 N W b p g v fp s→j<g.L.length→Calls Tryz.prog 36 #[.pointer (some ⟨b,0,none⟩),.int .u64 (ij:Int)] W fun e w'=>Below W.heap.size W w'∧∃xs rv,g.L[j]?=some xs∧e = .returned (.tuple #[rv,.bool true])∧Row w'.heap.size w' rv xs):=by
  rintro W j _ rfl hW hj;have h1:g.n.first=g.first:=rfl;have h2:g.n.many=g.L.length:=rfl;refine(Get_any W b g.n v g.L (g.first+j) hW.log.wal hW.log.recsAt rfl (by omega) (by omega) hx).mono ?_;rintro e w' ⟨hb,⟨h3,_⟩|⟨xs,rv,_,h4,h5,h6⟩⟩
  · exact absurd ⟨by omega,by omega⟩ h3
  · rw[h1,Nat.add_sub_cancel_left]at h4
    exact⟨hb,xs,rv,h4,h5,h6⟩
 obtain⟨fi,hfi⟩:∃fi,g.first=fi:=⟨_,rfl⟩;obtain⟨n,hn⟩:∃n,g.L.length=n:=⟨_,rfl⟩;obtain⟨m,hm⟩:∃m,fi+n=m:=⟨_,rfl⟩;rw[hfi,hn,hm]at hla hs;rw[hfi,hn]at HGT;have HFI:Hid (∀W,Since W0 N W b p g v fp s→Calls Tryz.prog 16 #[.pointer (some ⟨b,0,none⟩)] W fun e w'=>e = .returned (.int .u64 (fi:Int))∧w'=W):=fun W hW=>first_since hW _ (by rw[hfi])
 have HN:Hid (g.L.length=n):=hn;have hfn:(m:Int)-(fi:Int)=(n:Int):=by omega
 clear h hx hfi hn hlast hla0 hla1;go_enter Tryz.func18,Tryz.ntmps18;go_wp2_with fail
 go_loopw [3,4] (fun t3 t4 wr=>∃(j:Nat),t4 = .int .u64 j∧j≤n∧StrOwn w.heap.size wr t3 (g.L.take j)∧Below w.heap.size w wr) (fun _ t4 _=>n-(intOf t4).toNat)
 case atStart=>exact⟨0,rfl,Nat.zero_le _,StrOwn.nil _ _,Below.refl _ _⟩
 case round=>
  obtain⟨j,rfl,hj,hown,hb⟩:=hrel;have HO:Hid (StrOwn w.heap.size wr u3 (g.L.take j)∧Below w.heap.size w wr):=⟨hown,hb⟩;clear hown hb;by_cases hlt:j<n
  · have hlt':(j:Int)<(n:Int):=by omega
    obtain⟨ij,hij⟩:∃ij,fi+j=ij:=⟨_,rfl⟩;(have hij':(fi:Int)+(j:Int)=(ij:Int):=by omega);(have hijb:ij<1099511627776:=by omega);go_wp2_with fail;refine(HLA.out _ (HS.out.on HO.out.2)).mono ?_;rintro e w1 ⟨rfl,k1,rfl⟩;go_wp2_with fail;refine(HFI.out _ (HS.out.on (below_drewN HO.out.2 _))).mono ?_;rintro e w1 ⟨rfl,rfl⟩;go_wp2_with fail;refine(HFI.out _ (HS.out.on (below_drewN HO.out.2 _))).mono ?_;rintro e w1 ⟨rfl,rfl⟩;go_wp2_with fail;refine(HGT.out _ j ij hij (HS.out.on (below_drewN HO.out.2 _)) hlt).mono ?_;rintro e w2 ⟨hb2,xs,rv,hxs,rfl,hrow⟩;have hbd:Below wr.heap.size wr (wr.drewN k1):=below_drewN (Below.refl _ wr) k1;have hb3:Below wr.heap.size wr w2:=hbd.trans (hb2.mono hbd.size);have HO2:Hid (StrOwn w.heap.size w2 u3 (g.L.take j)∧Below w.heap.size w w2):=⟨HO.out.1.below hb3,HO.out.2.trans (hb3.mono HO.out.2.size)⟩;have HX:Hid (g.L[j]?=some xs):=hxs;obtain⟨ra,rc,rfl,_⟩:=hrow.shape;have hstr:=hrow.str;have HT:Hid (g.L.take j++[xs]=g.L.take (j+1)∧(g.L.take j).length<2199023255552):=⟨by rw[List.take_add_one,hxs];rfl,by rw[List.length_take];omega⟩;clear hxs hrow hb2 hb3 hbd;go_wp2_with (at_builtin;refine append_t rfl _ _ xs _ rfl w.heap.size _ _ u3 (g.L.take j) rfl HO2.out.1 rfl rfl HT.out.2 HO2.out.2.size ?_;intro v9 w9 ho9 hb9;have H9:Hid (StrOwn w.heap.size w9 v9 (g.L.take (j+1))∧Below w.heap.size w w9):=⟨by rw[←HT.out.1];exact ho9,HO2.out.2.trans hb9⟩;clear ho9 hb9)
    go_roundw
    (case rel=>exact⟨j+1,by go_num,by omega,H9.out.1,H9.out.2⟩);case measure=>simp[intOf];omega
  · have hjn:j=n:=by omega
    (have hlt':¬(j:Int)<(n:Int):=by omega);have HF:Hid (StrOwn w.heap.size wr u3 g.L∧Below w.heap.size w wr):=⟨by have:=HO.out.1;rwa [hjn,←HN.out,List.take_length]at this,HO.out.2⟩;clear hjn;go_wp2_with fail;refine(HLA.out _ (HS.out.on HO.out.2)).mono ?_;rintro e w1 ⟨rfl,k1,rfl⟩;go_wp2_with fail;refine(HFI.out _ (HS.out.on (below_drewN HO.out.2 _))).mono ?_;rintro e w1 ⟨rfl,rfl⟩;go_wp2_with fail;go_ret;exact⟨below_drewN HF.out.2 _,u3,rfl,HF.out.1.below (below_drewN (Below.refl _ _) _)⟩
end Go.Proofs.YthecngkdmnadoaaGreat

namespace Go.Proofs.YthecngkdmnadoaaGreat
open Go.ChangeShapes Go.WideShapes Go.ChangeAt Go.RowKit Go.Deep
set_option maxRecDepth 100000
theorem op5Cells:Tryz.prog.cellsOf 36=3:=by kernel_rfl
theorem intCells5:Tryz.prog.cellsOf 3=1:=by kernel_rfl
theorem bytesCells5:Tryz.prog.cellsOf 34=1:=by kernel_rfl
structure Op5 where
 kind:Int
 n:Int
 xs:List Nat
def Op5.fits(o:Op5):Prop := -9223372036854775808≤o.kind∧o.kind≤9223372036854775807 ∧ -9223372036854775808≤o.n∧o.n≤9223372036854775807∧o.xs.length≤9223372036854775807∧(∀x∈o.xs,x<256)
def Script5(W:World)(v:Value)(L:List Op5):Prop:=
 ∃ao cap,v = .slice ao L.length cap∧L.length≤cap∧L.length≤9223372036854775807∧(0<L.length→∃b off,ao=some ⟨b,off,none⟩∧b<W.heap.size∧∀(i:Nat) (o:Op5),L[i]?=some o→o.fits∧∃bv,
  W.cell? ⟨b,off+i*3,none⟩=some (.int .i64 o.kind)∧W.cell? ⟨b,off+i*3+1,none⟩=some (.int .i64 o.n)∧W.cell? ⟨b,off+i*3+2,none⟩=some bv∧Row W.heap.size W bv o.xs)
theorem bulk_pos{H:Type}(d:DataW H):1≤Rows.uptoBulk d:=by
 cases d with
 |lit l=>cases l<;>simp[Rows.uptoBulk]
 |_=>simp[Rows.uptoBulk]
theorem bulk_mul{H:Type}(m:Nat):∀(l:List (DataW H)),(∀d∈l,m≤Rows.uptoBulk d)→m*l.length≤Rows.uptoBulkAll l
 |[],_=>by simp
 |d::r,h=>by
  have h1:=bulk_mul m r (fun x hx=>h x (List.mem_cons_of_mem _ hx));have h2:=h d (List.mem_cons_self ..);simp only[List.length_cons,Rows.uptoBulkAll,Nat.mul_add,Nat.mul_one];omega
theorem bulk_mem{H:Type}:∀(l:List (DataW H)) (d:DataW H),d∈l→Rows.uptoBulk d≤Rows.uptoBulkAll l
 |[],_,h=>by cases h
 |e::r,d,h=>by
  simp only[Rows.uptoBulkAll];rcases List.mem_cons.1 h with rfl|h1
  · omega
  · have:=bulk_mem r d h1
    omega
theorem bytes_at5{H:Type}{enc:TypeId×Value→H}{W:World}{fuel:Nat}{v:Value}{x:DataW H×List MemPlace}
 (hf:DataW.trod enc Tryz.prog W 0 (fun _=>true) true fuel 34 [v]=some x):∃xs:List Nat,Row W.heap.size W v xs∧xs.length≤9223372036854775807∧(∀x∈xs,x<256)∧xs.length≤Rows.uptoBulk x.1:=by
 rcases open_ints Tryz.underlying34 Tryz.underlying5 cellsByte hf with⟨hcs,hx⟩|⟨a,len,cap,zs,hcs,_,hl,hm,hz,hx,hcell,hwz⟩
 · simp only[List.cons.injEq,and_true]at hcs
   subst hcs;exact⟨[],⟨none,0,rfl,Nat.le_refl _,fun _=>rfl,fun h=>by(simp at h)⟩,by simp,fun x hx=>by(simp at hx),by simp⟩
 · simp only[List.cons.injEq,and_true]at hcs
   subst hcs;simp only[if_true]at hz;(have hlen:(zs.take len).length=len:=by rw[List.length_take];omega);(have hb:∀x∈zs,0≤x∧x≤255:=fun x hx=>bounds_u8 (hwz x hx));(have hlen2:((zs.take len).map Int.toNat).length=len:=by rw[List.length_map,hlen]);refine⟨(zs.take len).map Int.toNat,⟨some a,cap,by rw[hlen2],by omega,fun h=>by(cases h),fun h0=>?_⟩,?_,?_,?_⟩
   · rw[hlen2]at h0
     obtain⟨b,off,rfl,hc⟩:=ints_at hcell (by omega);refine⟨b,off,rfl,lt_of_cell (hc 0 (by omega)),fun i hi=>?_⟩;rw[hlen2]at hi;rw[hc i (by omega)];(have hz2:i<zs.length:=by omega);have:=hb zs[i] (List.getElem_mem hz2);simp[List.getD_eq_getElem?_getD,hi,hz2];omega
   · rw[hlen2]
     unfold maxLen at hm;omega
   · intro x hx
     obtain⟨z,hz,rfl⟩:=List.mem_map.1 hx;have:=hb z (List.mem_of_mem_take hz);omega
   · rw[hlen2,hx]
     have h1:=bulk_mul 1 (lits (H:=H) .u8 (zs.take len)) (fun d _=>bulk_pos d);simp only[lits,List.length_map]at h1;simp only[Rows.uptoBulk,lits];omega
theorem ops5_in{H:Type}{enc:TypeId×Value→H}{W:World}{base:Nat}{v:Value}{d:DataW H}{p:List MemPlace}
 (hok:Value.okWide Tryz.prog W .any base 23 v) (h:DataW.Trod enc Tryz.prog W 0 (fun _=>true) true 23 v d p):∃L,Script5 W v L∧4*L.length≤Rows.uptoBulk d∧∀o∈L,o.xs.length≤Rows.uptoBulk d:=by
 obtain⟨a0,len,cap,rfl⟩:=okWide_slice Tryz.underlying23 hok;obtain⟨fuel,hf⟩:=h;rcases open_slice Tryz.underlying23 hf with⟨hcs,hx⟩|⟨a,len',cap',m,n,D,Pl,hcs,_,hl,hm,hmm,hx,hel⟩
 · simp[Value.cells]at hcs
   obtain⟨rfl,rfl,rfl⟩:=hcs;exact⟨[],⟨none,0,rfl,Nat.le_refl _,by simp,fun h=>by simp at h⟩,by simp,fun o ho=>by cases ho⟩
 · simp[Value.cells]at hcs
   obtain⟨rfl,rfl,rfl⟩:=hcs;(have hlm:len≤m:=by rw[hmm];split<;>omega);have each:∀i,i<m→4≤Rows.uptoBulk (D i)∧∃o:Op5,(o.fits∧o.xs.length≤Rows.uptoBulk (D i))∧∃bv,W.cell? (a.add (i*3))=some (.int .i64 o.kind)∧W.cell? (a.add (i*3+1))=some (.int .i64 o.n)∧W.cell? (a.add (i*3+2))=some bv∧Row W.heap.size W bv o.xs:=by
    intro i hi;obtain⟨cs',h1,h2⟩:=hel i hi;rw[op5Cells]at h1;obtain⟨_,hlen,hcell⟩:=World.cells?_some h1;obtain⟨y0,y1,y2,n2,hxe,_,g0,g1,g2⟩:=trod_struct3 Tryz.underlying36 h2
    match cs',hlen with
    |[v0,v1,v2],_=>
     simp[intCells5,bytesCells5]at g0 g1 g2;obtain⟨z0,e0,_,w0⟩:=DataW.trod_int Tryz.underlying3 g0;obtain⟨z1,e1,_,w1⟩:=DataW.trod_int Tryz.underlying3 g1;obtain⟨xs,hrow,hxl,hxb,hxbk⟩:=bytes_at5 g2;have b0:=bounds_i64 w0;have b1:=bounds_i64 w1;simp only[List.cons.injEq,and_true]at e0 e1;subst e0 e1;have c0:=hcell 0 (by omega);have c1:=hcell 1 (by omega);have c2:=hcell 2 (by omega);rw[add_add]at c0 c1 c2;simp only[Prod.mk.injEq]at hxe;have q0:=bulk_pos y0.1;have q1:=bulk_pos y1.1;have q2:=bulk_pos y2.1;refine⟨?_,⟨z0,z1,xs⟩,⟨⟨b0.1,b0.2,b1.1,b1.2,hxl,hxb⟩,?_⟩,v2,by simpa using c0,by simpa using c1,by simpa using c2,hrow⟩
     all_goals
      rw[hxe.1];simp only[Rows.uptoBulk,Rows.uptoBulkAll];omega
   have hch:∃f:Nat→Op5,∀i,i<m→((f i).fits∧(f i).xs.length≤Rows.uptoBulk (D i))∧∃bv,W.cell? (a.add (i*3))=some (.int .i64 (f i).kind)∧W.cell? (a.add (i*3+1))=some (.int .i64 (f i).n)∧W.cell? (a.add (i*3+2))=some bv∧Row W.heap.size W bv (f i).xs:=
    ⟨fun i=>if hi:i<m then Classical.choose (each i hi).2 else ⟨0,0,[]⟩,fun i hi=>by
     simp only[dif_pos hi];exact Classical.choose_spec (each i hi).2⟩
   obtain⟨f,hfe⟩:=hch;refine⟨(List.range len).map f,⟨some a,cap,by simp,by simpa using hl,by unfold maxLen at hm;simp;omega,fun h0=>?_⟩,?_,?_⟩
   · have h0':0<len:=by simpa using h0
     obtain⟨b,off,rfl⟩:∃b off,a=⟨b,off,none⟩:=by
      obtain⟨_,bv,c0,_⟩:=hfe 0 (by omega);obtain⟨b,off,sp⟩:=a;cases sp with
      |none=>exact⟨b,off,rfl⟩
      |some s=>exfalso;revert c0;unfold Addr.add World.cell?;split<;>simp
     (have hadd:∀j,(⟨b,off,none⟩:Addr).add j=⟨b,off+j,none⟩:=fun j=>by unfold Addr.add;split<;>simp_all);refine⟨b,off,rfl,?_,fun i o hi=>?_⟩
     · obtain⟨_,bv,c0,_⟩:=hfe 0 (by omega)
       rw[hadd]at c0;exact lt_of_cell c0
     · rw[List.getElem?_map]at hi
       have hil:i<len:=by
        cases hr:(List.range len)[i]? with
        |none=>rw[hr]at hi;cases hi
        |some j=>have:=(List.getElem?_eq_some_iff.1 hr).1;simpa using this
       rw[List.getElem?_range hil]at hi;simp only[Option.map_some,Option.some.injEq]at hi;subst hi;obtain⟨q1,bv,c0,c1,c2,q2⟩:=hfe i (by omega);rw[hadd]at c0 c1 c2;exact⟨q1.1,bv,c0,by simpa[Nat.add_assoc]using c1,by simpa[Nat.add_assoc]using c2,q2⟩
   · simp only[Prod.mk.injEq]at hx
     obtain⟨rfl,_⟩:=hx;have h1:=bulk_mul 4 ((List.range len).map D) (fun d hd=>by
      obtain⟨i,hi,rfl⟩:=List.mem_map.1 hd;exact(each i (by have:=List.mem_range.1 hi;omega)).1)
     simp only[Rows.uptoBulk,List.length_map,List.length_range]at h1 ⊢;omega
   · simp only[Prod.mk.injEq]at hx
     obtain⟨rfl,_⟩:=hx;intro o ho;obtain⟨i,hi,rfl⟩:=List.mem_map.1 ho;have hil:=List.mem_range.1 hi;have h1:=(hfe i (by omega)).1.2;have h2:=bulk_mem ((List.range len).map D) (D i) (List.mem_map.2 ⟨i,hi,rfl⟩);simp only[Rows.uptoBulk];omega
end Go.Proofs.YthecngkdmnadoaaGreat

namespace Go.Proofs.YthecngkdmnadoaaGreat
open Go.RowKit
set_option maxRecDepth 100000
structure CutW(W0:World)(N b p rb:Nat)(v:WV)(fp:List Nat)(s:List Sv)(g:LG)(M:List SR)(wv lv:Value)(w:World):Prop where
 log:Since W0 N w b p g v fp s
 row:StrsX ((rb::logF b v fp)++wv.ownBlock.toList) w lv g.L
 was:WasX (rb::logF b v fp) W0.heap.size w wv M
 clean:CleanB w wv
 box:w.heap[rb]?=some (.cells #[.int .u64 (g.first:Int),lv] 33 (0,0))
 rbl:rb∉logF b v fp
 rbo:rb∉wv.ownBlock.toList
 rbw:W0.heap.size≤rb
theorem CutW.rblt{W0:World}{N b p rb:Nat}{v:WV}{fp:List Nat}{s:List Sv}{g:LG}{M:List SR}{wv lv:Value}{w:World}(h:CutW W0 N b p rb v fp s g M wv lv w):rb<w.heap.size:=(Array.getElem?_eq_some_iff.1 h.box).1
theorem CutW.Flt{W0:World}{N b p rb:Nat}{v:WV}{fp:List Nat}{s:List Sv}{g:LG}{M:List SR}{wv lv:Value}{w:World}(h:CutW W0 N b p rb v fp s g M wv lv w):∀k∈(rb::logF b v fp)++wv.ownBlock.toList,k<w.heap.size:=by
 intro k hk;rcases List.mem_append.1 hk with h1|h1
 · rcases List.mem_cons.1 h1 with rfl|h2
   · exact h.rblt
   · exact h.log.log.lt k h2
 · exact(h.was.lt k h1).1
theorem CutW.below{W0:World}{N b p rb:Nat}{v:WV}{fp:List Nat}{s:List Sv}{g:LG}{M:List SR}{wv lv:Value}{w w':World}(h:CutW W0 N b p rb v fp s g M wv lv w)(hb:Below w.heap.size w w'):CutW W0 N b p rb v fp s g M wv lv w':=by
 refine⟨h.log.on hb,h.row.below hb,h.was.below hb,fun k hk cur T m hh u hu=>?_,(hb.block rb h.rblt).trans h.box,h.rbl,h.rbo,h.rbw⟩;have hkl:=(h.was.lt k (by rw[hk];exact List.mem_singleton.2 rfl)).1;rw[hb.block k hkl]at hh;exact h.clean k hk cur T m hh u hu
theorem CutW.more{W0:World}{N N' b p rb:Nat}{v:WV}{fp:List Nat}{s:List Sv}{g:LG}{M:List SR}{wv lv:Value}{w:World}(h:CutW W0 N b p rb v fp s g M wv lv w)(hm:N≤N'):CutW W0 N' b p rb v fp s g M wv lv w:=⟨h.log.more hm,h.row,h.was,h.clean,h.box,h.rbl,h.rbo,h.rbw⟩
structure CutX(W0:World)(N b p rb:Nat)(v:WV)(fp:List Nat)(s:List Sv)(g:LG)(f:Nat)(l:List (List Nat))(M:List SR)(wv lv:Value)(w:World):Prop where
 log:Since W0 N w b p g v fp s
 row:StrsX ((rb::logF b v fp)++wv.ownBlock.toList) w lv l
 was:WasX (rb::logF b v fp) W0.heap.size w wv M
 clean:CleanB w wv
 box:∃u0 u1,w.heap[rb]?=some (.cells #[.int .u64 u0,u1] 33 (0,0))∧NoB u1∧u1.oneCell'=true
 rbl:rb∉logF b v fp
 rbo:rb∉wv.ownBlock.toList
 rbw:W0.heap.size≤rb
 hf:f=f
theorem CutW.called{W0:World}{N N' b p rb:Nat}{v v':WV}{fp fp':List Nat}{s s':List Sv}{g g':LG}{M:List SR}{wv lv lv2:Value}{w w':World}{f:Nat}{l:List (List Nat)}(h:CutW W0 N b p rb v fp s g M wv lv w)(h2:StrsX ((rb::logF b v fp)++wv.ownBlock.toList) w lv2 l)(hl:Since W0 N' w' b p g' v' fp' s')(ho:Only (logF b v fp) w w')(hs:∀k∈logF b v' fp',k∈logF b v fp∨w.heap.size≤k):CutX W0 N' b p rb v' fp' s' g' f l M wv lv2 w':=by
 have hlv1:NoB lv∧lv.oneCell'=true:=by
  obtain⟨ao,cap,e,_⟩:=h.row.1;exact⟨by rw[e];exact noB_slice _ _ _,h.row.1.one⟩
 have hsF:∀k∈rb::logF b v' fp',k∈rb::logF b v fp∨w.heap.size≤k:=by
  intro k hk;rcases List.mem_cons.1 hk with rfl|h1
  · exact .inl (List.mem_cons_self ..)
  · exact(hs k h1).imp (fun h=>List.mem_cons_of_mem _ h) id
 refine⟨hl,h2.step (ho.wider (fun k hk=>List.mem_append_left _ (List.mem_cons_of_mem _ hk))) (fun k hk=>?_),h.was.step (ho.wider (fun k hk=>List.mem_cons_of_mem _ hk)) hsF,fun k hk cur T m hh u hu=>?_,⟨_,lv,(ho.block rb h.rblt h.rbl).trans h.box,hlv1.1,hlv1.2⟩,fun hm=>?_,h.rbo,h.rbw,rfl⟩
 · rcases List.mem_append.1 hk with h1|h1
   · exact(hsF k h1).imp (fun h=>List.mem_append_left _ h) id
   · exact .inl (List.mem_append_right _ h1)
 · have hkl:=h.was.lt k (by rw[hk];exact List.mem_singleton.2 rfl)
   rw[ho.block k hkl.1 (fun hm=>hkl.2.2 (List.mem_cons_of_mem _ hm))]at hh;exact h.clean k hk cur T m hh u hu
 · rcases hs rb hm with h1|h1
   · exact h.rbl h1
   · have:=h.rblt;omega
theorem CutX.rblt{W0:World}{N b p rb:Nat}{v:WV}{fp:List Nat}{s:List Sv}{g:LG}{f:Nat}{l:List (List Nat)}{M:List SR}{wv lv:Value}{w:World}(h:CutX W0 N b p rb v fp s g f l M wv lv w):rb<w.heap.size:=by
 obtain⟨u0,u1,h1,_⟩:=h.box;exact(Array.getElem?_eq_some_iff.1 h1).1
theorem CutX.below{W0:World}{N b p rb:Nat}{v:WV}{fp:List Nat}{s:List Sv}{g:LG}{f:Nat}{l:List (List Nat)}{M:List SR}{wv lv:Value}{w w':World}(h:CutX W0 N b p rb v fp s g f l M wv lv w)(hb:Below w.heap.size w w'):CutX W0 N b p rb v fp s g f l M wv lv w':=by
 obtain⟨u0,u1,k1,k2,k3⟩:=h.box;refine⟨h.log.on hb,h.row.below hb,h.was.below hb,fun k hk cur T m hh u hu=>?_,⟨u0,u1,(hb.block rb h.rblt).trans k1,k2,k3⟩,h.rbl,h.rbo,h.rbw,rfl⟩;have hkl:=(h.was.lt k (by rw[hk];exact List.mem_singleton.2 rfl)).1;rw[hb.block k hkl]at hh;exact h.clean k hk cur T m hh u hu
theorem CutX.stored{W0:World}{N b p rb:Nat}{v:WV}{fp:List Nat}{s:List Sv}{g:LG}{f:Nat}{l:List (List Nat)}{M:List SR}{wv lv:Value}{w:World}(h:CutX W0 N b p rb v fp s g f l M wv lv w)(hf:g.first=f)(hl:g.L=l):CutW W0 N b p rb v fp s g M wv lv ((w.setCell ⟨rb,0,none⟩ (.int .u64 (f:Int))).setCell ⟨rb,1,none⟩ lv):=by
 subst hf hl;obtain⟨u0,u1,k1,k2,k3⟩:=h.box;have hrb:=h.rblt;obtain⟨w',hw'⟩:∃w',(w.setCell ⟨rb,0,none⟩ (.int .u64 (g.first:Int))).setCell ⟨rb,1,none⟩ lv=w':=⟨_,rfl⟩;rw[hw'];have ho:Only [rb] w w':=by
  rw[←hw'];exact((Only.refl [rb] w).setCell (by simp) _ _).setCell (by simp) _ _
 have hbox:w'.heap[rb]?=some (.cells #[.int .u64 (g.first:Int),lv] 33 (0,0)):=by
  rw[←hw'];unfold World.setCell;simp[Array.getElem?_modify,k1]
 have hNB:NoBs w [rb]:=by
  intro k hk o n hc;rw[List.mem_singleton.1 hk]at hc;unfold World.cell? at hc;rw[k1]at hc
  dsimp only at hc
  match o with
  |0=>
   have h3:some (Value.int IntKind.u64 u0)=some (bv n):=hc;exact noB_u64 u0 n (Option.some.inj h3)
  |1=>
   have h3:some u1=some (bv n):=hc;exact k2 n (Option.some.inj h3)
  |o+2=>simp at hc
 refine⟨h.log.apartN ho (fun k hk hm=>by rw[List.mem_singleton.1 hk]at hm;exact h.rbl hm) hNB (fun k hk=>by rw[List.mem_singleton.1 hk];exact h.rbw),h.row.step (ho.wider (fun k hk=>by rw[List.mem_singleton.1 hk];simp)) (fun k hk => .inl hk),h.was.step (ho.wider (fun k hk=>by rw[List.mem_singleton.1 hk];simp)) (fun k hk => .inl hk),fun k hk cur T m hh u hu=>?_,hbox,h.rbl,h.rbo,h.rbw⟩;have hkm:k∈wv.ownBlock.toList:=by rw[hk];exact List.mem_singleton.2 rfl
 have hkl:=(h.was.lt k hkm).1;rw[ho.block k hkl (fun hm=>by rw[List.mem_singleton.1 hm]at hkm;exact h.rbo hkm)]at hh;exact h.clean k hk cur T m hh u hu
theorem CutW.cells{W0:World}{N b p rb:Nat}{v:WV}{fp:List Nat}{s:List Sv}{g:LG}{M:List SR}{wv lv:Value}{w:World}(h:CutW W0 N b p rb v fp s g M wv lv w):w.cell? ⟨rb,0,none⟩=some (.int .u64 (g.first:Int))∧w.cell? ⟨rb,1,none⟩=some lv∧∀o,w.frozen? ⟨rb,o,none⟩=false:=by
 refine⟨?_,?_,fun o=>?_⟩
 · unfold World.cell?
   rw[h.box];rfl
 · unfold World.cell?
   rw[h.box];rfl
 · unfold World.frozen?
   rw[h.box];simp
theorem CutW.grown{W0:World}{N b p rb:Nat}{v:WV}{fp:List Nat}{s:List Sv}{g:LG}{M M':List SR}{wv lv wv':Value}{w w':World}(h:CutW W0 N b p rb v fp s g M wv lv w)(hw:WasX (rb::logF b v fp) W0.heap.size w' wv' M')(hc:CleanB w' wv')(ho:Only wv.ownBlock.toList w w')(hs:∀k∈wv'.ownBlock.toList,k∈wv.ownBlock.toList∨w.heap.size≤k):CutW W0 N b p rb v fp s g M' wv' lv w':=by
 refine⟨h.log.apartN ho (fun k hk hm=>(h.was.lt k hk).2.2 (List.mem_cons_of_mem _ hm)) h.clean.noBs (fun k hk=>(h.was.lt k hk).2.1),h.row.step (ho.wider (fun k hk=>List.mem_append_right _ hk)) (fun k hk=>?_),hw,hc,(ho.block rb h.rblt h.rbo).trans h.box,h.rbl,fun hm=>?_,h.rbw⟩
 · rcases List.mem_append.1 hk with h1|h1
   · exact .inl (List.mem_append_left _ h1)
   · exact(hs k h1).imp (fun h=>List.mem_append_right _ h) id
 · rcases hs rb hm with h1|h1
   · exact h.rbo h1
   · have:=h.rblt;omega
end Go.Proofs.YthecngkdmnadoaaGreat

namespace Go.Proofs.YthecngkdmnadoaaGreat
open Go.RowKit
set_option maxRecDepth 100000
theorem append_w{W:World}{ops:Array Oper}{rest:List Oper}{o:Oper}{a:Act}{Q:Exit→Act→World→Prop}(hgd:o.guard=none)(s y:Operand)(F:List Nat)(B c nb:Nat)(v:Value)(M:List SR)(x:Nat×Value)(r:SR)
 (ho:o.op = .call { callee := .builtin .append,args:=#[s,y],argTypes:=#[48,48] }) (hs:a.eval s=v) (hwas:WasX F B W v M) (hcl:CleanB W v) (hx:MemX (F++v.ownBlock.toList) W x r) (hB:B≤W.heap.size) (hF:∀k∈F,k<W.heap.size) (hM:M.length<1099511627776)
 (hy:a.eval y = .slice (some ⟨nb,0,none⟩) 1 c) (hnb:nb=W.heap.size)
 (h:∀v' w',WasX F B w' v' (M++[r])→CleanB w' v'→Only v.ownBlock.toList W w'→(∀k∈v'.ownBlock.toList,k∈v.ownBlock.toList∨W.heap.size≤k)→wpList Tryz.prog ops Q rest (a.put o.dst v') w'):wpList Tryz.prog ops Q (o::rest) a (W.alloc (.cells #[.int .u64 (x.1:Int),x.2] 33)):=by
 subst hnb;obtain⟨v',w',h1,h2,h3,h4,h5⟩:=was_run hwas hcl hx hB hF hM o.type c;refine wpList_plain hgd fun _ hK=>?_
 unfold Oper.wp execOp;simp only[ho,resolve,invoke,builtin,Sem.run_bind,Sem.run_pure,Result.andThen_ok,List.map_toArray,List.map_cons,List.map_nil,hs,hy,h1];exact hK _ _ (h v' w' h2 h3 h4 h5)
theorem CutW.one{W0:World}{N b p rb:Nat}{v:WV}{fp:List Nat}{s:List Sv}{g:LG}{lv:Value}{w:World}(hlog:Since W0 N w b p g v fp s)(hrow:StrsX (rb::logF b v fp) w lv g.L)(hbox:w.heap[rb]?=some (.cells #[.int .u64 (g.first:Int),lv] 33 (0,0)))(hrbl:rb∉logF b v fp)(hrbw:W0.heap.size≤rb):
 CutW W0 N b p rb v fp s g [(g.first,g.L)] (.slice (some ⟨w.heap.size,0,none⟩) 1 1) lv (w.alloc (.cells #[.int .u64 (g.first:Int),lv] 33)):=by
 have hrlt:rb<w.heap.size:=(Array.getElem?_eq_some_iff.1 hbox).1;have hb:Below w.heap.size w (w.alloc (.cells #[.int .u64 (g.first:Int),lv] 33)):=(Below.refl _ w).alloc (Nat.le_refl _) _;have hF:∀k∈rb::logF b v fp,k<w.heap.size:=by
  intro k hk;rcases List.mem_cons.1 hk with rfl|h2
  · exact hrlt
  · exact hlog.log.lt k h2
 refine⟨hlog.on hb,hrow.step (Only.of_below hb) (fun k hk=>?_),was_one (x:=(g.first,lv)) hlog.below.size ⟨rfl,hrow⟩ hF,fun k hk cur T m hh u hu=>?_,(hb.block rb hrlt).trans hbox,hrbl,fun hm=>?_,hrbw⟩
 · rcases List.mem_append.1 hk with h1|h1
   · exact .inl h1
   · have:k=w.heap.size:=by simpa[Value.ownBlock]using h1
     exact .inr (by omega)
 · have hk':k=w.heap.size:=by
    simp only[Value.ownBlock,Option.some.injEq]at hk;exact hk.symm
   subst hk';rw[alloc_newQ w]at hh;simp only[Option.some.injEq,Obj.cells.injEq]at hh;rw[←hh.1]at hu;simp only[List.mem_cons,List.not_mem_nil,or_false]at hu;rcases hu with rfl|rfl
   · exact noB_u64 _
   · obtain⟨ao,cap,e,_⟩:=hrow.1
     rw[e];exact noB_slice _ _ _
 · have:rb=w.heap.size:=by simpa[Value.ownBlock]using hm
   omega
theorem CutW.start{W0:World}{N b p B:Nat}{v:WV}{fp:List Nat}{s:List Sv}{g:LG}{lv:Value}{w:World}(hlog:Since W0 N w b p g v fp s)(hl:StrOwn B w lv g.L)(hB:∀k∈logF b v fp,k<B):
 CutW W0 N b p w.heap.size v fp s g [(g.first,g.L)] (.slice (some ⟨w.heap.size+1,0,none⟩) 1 1) lv ((w.alloc (.cells #[.int .u64 (g.first:Int),lv] 33)).alloc (.cells #[.int .u64 (g.first:Int),lv] 33)):=by
 have hb:Below w.heap.size w (w.alloc (.cells #[.int .u64 (g.first:Int),lv] 33)):=(Below.refl _ w).alloc (Nat.le_refl _) _;have hr:=hl.readX hB;have hsz:(w.alloc (.cells #[.int .u64 (g.first:Int),lv] 33)).heap.size=w.heap.size+1:=by simp
 have:=CutW.one (rb:=w.heap.size) (hlog.on hb) (hr.step (Only.of_below hb) (fun k hk=>?_)) (alloc_newQ w _) (fun hm=>Nat.lt_irrefl _ (hlog.log.lt _ hm)) hlog.below.size
 · rw[hsz]at this
   exact this
 · rcases List.mem_cons.1 hk with rfl|h1
   · exact .inr (Nat.le_refl _)
   · exact .inl h1
theorem CutW.arm{W0:World}{N b p rb:Nat}{v:WV}{fp:List Nat}{s:List Sv}{g:LG}{M:List SR}{wv lv:Value}{w w':World}{d:DS}(h:CutW W0 N b p rb v fp s g M wv lv w)(hd:DiskAt N w' p d fp)(ho:Only fp w w'):CutW W0 N b p rb v fp s { g with d:=d } M wv lv w':=by
 have hfp:∀k∈fp,k∈logF b v fp:=fun k hk=>by simp[logF,hk]
 have hl:Since W0 N w' b p { g with d:=d } v fp s:=⟨h.log.log.turn ho (by rw[h.log.p];exact hd) (fun k hk => .inl hk),h.log.new,h.log.below.trans (ho.below h.log.below.size (fun k hk=>h.log.new k (hfp k hk))),h.log.p⟩;refine⟨hl,h.row.step (ho.wider (fun k hk=>List.mem_append_left _ (List.mem_cons_of_mem _ (hfp k hk)))) (fun k hk => .inl hk),h.was.step (ho.wider (fun k hk=>List.mem_cons_of_mem _ (hfp k hk))) (fun k hk => .inl hk),fun k hk cur T m hh u hu=>?_,(ho.block rb h.rblt (fun hm=>h.rbl (hfp _ hm))).trans h.box,h.rbl,h.rbo,h.rbw⟩;have hkl:=h.was.lt k (by rw[hk];exact List.mem_singleton.2 rfl);rw[ho.block k hkl.1 (fun hm=>hkl.2.2 (List.mem_cons_of_mem _ (hfp k hm)))]at hh;exact h.clean k hk cur T m hh u hu
def CutSays(W0:World)(p k:Nat)(at_:Int)(N:Nat)(e:Ending)(w':World):Prop:=∃M wv d' fp',e = .returned (.tuple #[wv,.bool true])∧Below W0.heap.size W0 w'∧DiskAt N w' p d' fp'∧(∀x∈fp',W0.heap.size≤x)∧((d'.dead=true∧0≤at_∧CutD 1 k M d')∨∃g,g.d=d'∧CutP 1 k at_ g M)∧WasX fp' W0.heap.size w' wv M
theorem fp_logF{b rb:Nat}{v:WV}{fp:List Nat}{x:Nat}(h:x∈fp):x∈rb::logF b v fp:=List.mem_cons_of_mem _ (by simp[logF,h])
theorem CutW.says{W0:World}{N b p rb k:Nat}{at_:Int}{v:WV}{fp:List Nat}{s:List Sv}{g:LG}{M:List SR}{wv lv:Value}{w:World}(h:CutW W0 N b p rb v fp s g M wv lv w)(hp:CutP 1 k at_ g M):CutSays W0 p k at_ N (.returned (.tuple #[wv,.bool true])) w:=
 ⟨M,wv,g.d,fp,rfl,h.log.below,by have:=h.log.log.disk;rwa [h.log.p]at this,fun x hx=>h.log.new x (by simp[logF,hx]),.inr ⟨g,rfl,hp⟩,h.was.step (Only.refl _ _) (fun x hx => .inl (fp_logF hx))⟩
theorem CutX.died{W0:World}{N b p rb k:Nat}{at_:Int}{v:WV}{fp:List Nat}{s:List Sv}{g:LG}{f:Nat}{l:List (List Nat)}{M M':List SR}{wv lv wv':Value}{w w':World}(h:CutX W0 N b p rb v fp s g f l M wv lv w)(hw:WasX (rb::logF b v fp) W0.heap.size w' wv' M')(ho:Only wv.ownBlock.toList w w')(hd:g.d.dead=true)(ha:0≤at_)(hc:CutD 1 k M' g.d):CutSays W0 p k at_ N (.returned (.tuple #[wv',.bool true])) w':=by
 have hl:=h.log.apartN ho (fun k hk hm=>(h.was.lt k hk).2.2 (List.mem_cons_of_mem _ hm)) h.clean.noBs (fun k hk=>(h.was.lt k hk).2.1);exact⟨M',wv',g.d,fp,rfl,hl.below,by have:=hl.log.disk;rwa [hl.p]at this,fun x hx=>hl.new x (by simp[logF,hx]),.inl ⟨hd,ha,hc⟩,hw.step (Only.refl _ _) (fun x hx => .inl (fp_logF hx))⟩
theorem CutSays.more{W0:World}{p k m:Nat}{at_:Int}{N N':Nat}{e:Ending}{w:World}(h:CutSays W0 p k at_ N e w)(hm:k≤m)(hN:N≤N'):CutSays W0 p m at_ N' e w:=by
 obtain⟨M,wv,d',fp',h1,h2,h3,h4,h5,h6⟩:=h;refine⟨M,wv,d',fp',h1,h2,h3.mono hN,h4,?_,h6⟩;rcases h5 with⟨q1,q2,q3⟩|⟨g,q1,q2⟩
 · exact .inl ⟨q1,q2,q3.more hm⟩
 · exact .inr ⟨g,q1,q2.more hm⟩
theorem CutX.Flt{W0:World}{N b p rb:Nat}{v:WV}{fp:List Nat}{s:List Sv}{g:LG}{f:Nat}{l:List (List Nat)}{M:List SR}{wv lv:Value}{w:World}(h:CutX W0 N b p rb v fp s g f l M wv lv w):∀k∈rb::logF b v fp,k<w.heap.size:=by
 intro k hk;rcases List.mem_cons.1 hk with rfl|h2
 · exact h.rblt
 · exact h.log.log.lt k h2
theorem CutX.cells{W0:World}{N b p rb:Nat}{v:WV}{fp:List Nat}{s:List Sv}{g:LG}{f:Nat}{l:List (List Nat)}{M:List SR}{wv lv:Value}{w:World}(h:CutX W0 N b p rb v fp s g f l M wv lv w):∃u0 u1,w.cell? ⟨rb,0,none⟩=some (.int .u64 u0)∧w.cell? ⟨rb,1,none⟩=some u1∧∀o,w.frozen? ⟨rb,o,none⟩=false:=by
 obtain⟨u0,u1,k1,_⟩:=h.box;refine⟨u0,u1,?_,?_,fun o=>?_⟩
 · unfold World.cell?
   rw[k1];rfl
 · unfold World.cell?
   rw[k1];rfl
 · unfold World.frozen?
   rw[k1];simp
end Go.Proofs.YthecngkdmnadoaaGreat
