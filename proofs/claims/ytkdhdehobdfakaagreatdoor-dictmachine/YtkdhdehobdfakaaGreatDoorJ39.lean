import Derived.Test.YtkdhdehobdfakaaGreatDoorJ36
import Derived.Test.YtkdhdehobdfakaaGreatDoorFRBuild
import Derived.Test.YtkdhdehobdfakaaGreatDoorCards
import Derived.Test.YtkdhdehobdfakaaGreatDoorTie
import Derived.Deep.DeepHandedRow
import Derived.Lib.LaidTab
import Derived.Deep.Strs
import Derived.Lib.SmallJoins
set_option maxRecDepth 100000
set_option maxHeartbeats 8000000
namespace Go.Proofs.YtkdhdehobdfakaaGreatDoor
section
open Go.RowKit Go.Shelf Go.Lib Nums Fm Pk Pm
namespace Di
theorem zNc{tmps:Array Value}{w:World}{rb:Nat}{a b:Value}(h2:tmps.getD 2 undef = .pointer (some ⟨rb,0,none⟩))(c0:w.cell? ⟨rb,0,none⟩=some a)(c1:w.cell? ⟨rb,1,none⟩=some b):(results Tryz.f7 tmps).run Tryz.prog w = .ok (.agg #[a,b]) w:=by
 have h2':tmps[2]?.getD undef = .pointer (some ⟨rb,0,none⟩):=by simpa using h2
 simp[results,Tryz.results7,go_sem,h2',c0,c1]
theorem zP7(B:Nat)(w:World)(db lo hi wb:Nat)(v:Value)(base over:List Pr)(h:DictAt B w db lo hi wb v base over):
 Calls Tryz.prog 7 #[.pointer (some ⟨db,0,none⟩)] w fun e w'=>∃b0 va vn vc b,e = .returned (.agg #[.int .i64 b0,.slice va vn vc])∧zAf (zAe zAa base over)=(b0,b)∧StRow w.heap.size w' (.slice va vn vc) b∧Below w.heap.size w w':=by
 obtain⟨W1,hW1⟩:∃W1,W1=w.alloc (.cells #[.int .i64 0,.slice none 0 0] 31):=⟨_,rfl⟩;obtain⟨rb,hrb⟩:∃rb,rb=w.heap.size:=⟨_,rfl⟩;have hb1:Below w.heap.size w W1:=by rw[hW1];exact(Below.refl _ w).alloc (Nat.le_refl _) _
 have hn1:W1.heap[rb]?=some (.cells #[.int .i64 0,.slice none 0 0] 31):=by rw[hW1,hrb];exact zAb _ _
 have HB1:Hid (Below w.heap.size w W1∧W1.heap[rb]?=some (.cells #[.int .i64 0,.slice none 0 0] 31)∧rb=w.heap.size∧rb<W1.heap.size):=⟨hb1,hn1,hrb,(Array.getElem?_eq_some_iff.1 hn1).1⟩
 have HP:Hid (Calls Tryz.prog 17 #[.pointer (some ⟨db,0,none⟩)] W1 fun e w'=>∃ad n cap,e = .returned (.slice ad n cap)∧PRow w' (.slice ad n cap) (zAe zAa base over)∧Below W1.heap.size W1 w'):=(zOf B W1 db lo hi wb v base over (h.below hb1)).mono (by
  rintro e w' ⟨u,rfl,ho,hb⟩;obtain⟨ad,cap,rfl⟩:=ho.shape;exact⟨ad,_,cap,rfl,ho.row,hb⟩)
 have hlen:=(zAp h.ok.all).2.2
 have HBU:Hid (∀W u,Below w.heap.size w W→PRow W u (zAe zAa base over)→Calls Tryz.prog 16 #[u] W fun e w'=>∃b0 va vn vc b,e = .returned (.tuple #[.agg #[.int .i64 b0,.slice va vn vc],.int .i64 0])∧zAf (zAe zAa base over)=(b0,b)∧StRow W.heap.size w' (.slice va vn vc) b∧Below W.heap.size W w'):=fun W u hW hu=>(zI0 W u _ hu (by omega) h.ok.words_sm (h.tabs.now.below hW)).mono (by
  rintro e w' ⟨b0,vs,b,rfl,hs⟩;obtain⟨va,vn,vc,rfl⟩:=zFq hs.row;exact⟨b0,va,vn,vc,b,by rw[h.ok.all],hs.mach,hs.row,hs.bel⟩)
 clear h hlen hb1;go_enter Tryz.func7,Tryz.ntmps7;go_upto_region 1 with fail
 rw[←hW1,←hrb];clear hW1 hrb hn1
 go_upto_region 2 with(first
  |(go_at_call 17;refine HP.out.mono ?_;rintro e w2 ⟨ad,n,cap,rfl,hr2,hb2⟩;have HB2:Hid (PRow w2 (.slice ad n cap) (zAe zAa base over)∧Below W1.heap.size W1 w2∧Below w.heap.size w w2):=⟨hr2,hb2,HB1.out.1.trans (hb2.mono HB1.out.1.size)⟩;clear hr2 hb2)
  |(go_at_call 16;refine(HBU.out _ _ HB2.out.2.2 HB2.out.1).mono ?_;rintro e w3 ⟨b0,va,vn,vc,b,rfl,hm,hs,hb3⟩;have HB3:Hid (zAf (zAe zAa base over)=(b0,b)∧StRow w2.heap.size w3 (.slice va vn vc) b∧Below w2.heap.size w2 w3):=⟨hm,hs,hb3⟩;clear hm hs hb3))
 obtain⟨W4,hW4⟩:∃W4,W4=w3.alloc (.cells #[.int .i64 b0,.slice va vn vc] 31):=⟨_,rfl⟩;obtain⟨mb,hmb⟩:∃mb,mb=w3.heap.size:=⟨_,rfl⟩;have hb4:Below w3.heap.size w3 W4:=by rw[hW4];exact(Below.refl _ w3).alloc (Nat.le_refl _) _
 have hn4:W4.heap[mb]?=some (.cells #[.int .i64 b0,.slice va vn vc] 31):=by rw[hW4,hmb];exact zAb _ _
 have hr4:W4.heap[rb]?=some (.cells #[.int .i64 0,.slice none 0 0] 31):=by
  have h1:=HB1.out.2.2.2;have h2:=HB2.out.2.1;have h3:=HB3.out.2.2;have s2:=h2.size;have s3:=h3.size;exact(hb4.block rb (by omega)).trans ((h3.block rb (by omega)).trans ((h2.block rb h1).trans HB1.out.2.1))
 have n0:W4.cell? ⟨mb,0,none⟩=some (.int .i64 b0):=by simp[World.cell?,hn4]
 have n1:W4.cell? ⟨mb,1,none⟩=some (.slice va vn vc):=by simp[World.cell?,hn4]
 have c0:W4.cell? ⟨rb,0,none⟩=some (.int .i64 0):=by simp[World.cell?,hr4]
 have c1:W4.cell? ⟨rb,1,none⟩=some (.slice none 0 0):=by simp[World.cell?,hr4]
 have hz:∀o,W4.frozen? ⟨rb,o,none⟩=false:=fun o=>by simp[World.frozen?,hr4]
 obtain⟨W5,hW5⟩:∃W5,W5=(W4.setCell ⟨rb,0,none⟩ (.int .i64 b0)).setCell ⟨rb,1,none⟩ (.slice va vn vc):=⟨_,rfl⟩;have h5:W5.heap[rb]?=some (.cells #[.int .i64 b0,.slice va vn vc] 31):=by rw[hW5,zAt (zAt hr4 _) _];rfl
 have h5o:∀j,j≠rb→W5.heap[j]?=W4.heap[j]?:=fun j hj=>by rw[hW5,zAc _ _ _ _ hj,zAc _ _ _ _ hj]
 have k0:W5.cell? ⟨rb,0,none⟩=some (.int .i64 b0):=by simp[World.cell?,h5]
 have k1:W5.cell? ⟨rb,1,none⟩=some (.slice va vn vc):=by simp[World.cell?,h5]
 have HFIN:Hid (zAf (zAe zAa base over)=(b0,b)∧StRow w.heap.size W5 (.slice va vn vc) b∧Below w.heap.size w W5):=by
  have h1:=HB1.out;have h2:=HB2.out;have h3:=HB3.out;have s2:=h2.2.1.size;have s1:=h1.1.size;have s3:=h3.2.2.size;refine⟨h3.1,((h3.2.1.below hb4).same fun g hg=>h5o g (by omega)).mono (by omega),?_⟩;have h4:Below w.heap.size w W4:=h2.2.2.trans ((h3.2.2.trans (hb4.mono s3)).mono h2.2.2.size);rw[hW5];exact(h4.setCell (Nat.le_of_eq h1.2.2.1.symm) _).setCell (Nat.le_of_eq h1.2.2.1.symm) _
 rw[←hW4,←hmb];clear hW4 hmb hb4 hn4 hr4 h5 h5o;go_wp2;rw[←hW5];try simp only[Exit.inBlock,Exit.then]
 refine bodyPost_ret (zNc rfl k0 k1) rfl ?_;exact⟨_,_,_,_,_,rfl,HFIN.out⟩
end Di
end
section
open Go.RowKit Nums Fm
theorem zV7{l:List Pr}(h:zAl l=0):∃D,Inv D (zAf l).2∧∀R,R∈D↔(ents l≠[]∧Sub (ents l) R):=by
 by_cases hl:l=[]
 · subst hl
   exact⟨[],Inv.nil,fun R=>⟨fun h=>(by cases h),fun h=>absurd rfl h.1⟩⟩
 · obtain⟨D,M⟩:=zCf 25 [] [] (ents l) Inv.nil (zCd h hl)
   rw[zAf,if_pos ⟨h,hl⟩];refine⟨D,M.inv,fun R=>⟨fun hR=>⟨zLr hl,?_⟩,fun hR=>M.all R hR.2⟩⟩;rcases M.sub R hR with h|h
   · cases h
   · exact h
end
section
open Go.ChangeShapes Go.WideShapes Go.ChangeAt Go.RowKit
theorem own:ownKnob Tryz.prog.godebug=none:=by kernel_rfl
theorem zNj : Tryz.prog.globalNamed "abecedary/letters.least" = some 1 := by kernel_rfl
theorem zXe : Tryz.prog.globalNamed "abecedary/letters.lead" = some 0 := by kernel_rfl
theorem zTe:(Tryz.prog.globals[1]?).map (·.type)=some 161:=by kernel_rfl
theorem zXd:(Tryz.prog.globals[0]?).map (·.type)=some 160:=by kernel_rfl
theorem zTt:Tryz.prog.cellsOf 161=5:=by kernel_rfl
theorem zX9:Tryz.prog.cellsOf 160=5:=by kernel_rfl
theorem zTr:Tryz.prog.cellsOf 21=1:=by kernel_rfl
theorem zYb:Tryz.prog.cellsOf 5=1:=by kernel_rfl
abbrev laidBoth : List (String × DataW Unit) := [("abecedary/letters.least", Rows.laid_abecedary_letters_least), ("abecedary/letters.lead", Rows.laid_abecedary_letters_lead)]
theorem zMn{W:World}(h:laidMetH Tryz.prog laidBoth W):Tabs W:=by
 have t : Lib.TabIs Tryz.prog W "abecedary/letters.least" .i32 [0, 0, 128, 2048, 65536] :=
  Lib.tabIs_of_head (rest := [("abecedary/letters.lead", Rows.laid_abecedary_letters_lead)]) zNj zTe Tryz.underlying161 Tryz.underlying21 zTr zTt h
 have h2 : laidMetH Tryz.prog [("abecedary/letters.lead", Rows.laid_abecedary_letters_lead)] W := laidMetH.filter (fun x => x.1 == "abecedary/letters.lead") h
 have l : Lib.TabIs Tryz.prog W "abecedary/letters.lead" .u8 [0, 0, 192, 224, 240] :=
  Lib.tabIs_of_head (rest:=[]) zXe zXd Tryz.underlying160 Tryz.underlying5 zYb zX9 h2
 exact⟨l.cell zXe 2 (by decide),l.cell zXe 3 (by decide),l.cell zXe 4 (by decide),l.cell zXe 1 (by decide),
  t.cell zNj 1 (by decide),t.cell zNj 2 (by decide),t.cell zNj 3 (by decide),t.cell zNj 4 (by decide)⟩
def layLeast:Obj→Obj
 |.cells _ t frozen => .cells #[.int .i32 0,.int .i32 0,.int .i32 128,.int .i32 2048,.int .i32 65536] t frozen
 |o=>o
def layLead:Obj→Obj
 |.cells _ t frozen => .cells #[.int .u8 0,.int .u8 0,.int .u8 192,.int .u8 224,.int .u8 240] t frozen
 |o=>o
noncomputable def laidWorld(os:Os):World:=
 { World.holding Tryz.prog os ⟨#[],#[],[]⟩with heap:=((World.holding Tryz.prog os ⟨#[],#[],[]⟩).heap.modify 1 layLeast).modify 0 layLead }
end
section
open Go.ChangeShapes Go.WideShapes Go.ChangeAt Go.RowKit Go.Deep
theorem zWo:laidOutB Tryz.prog=true:=by kernel_rfl
theorem zM1:Tryz.prog.cellsOf 75=2:=by kernel_rfl
theorem zQj:Tryz.prog.cellsOf 9=1:=by kernel_rfl
theorem zRk:Tryz.prog.cellsOf 3=1:=by kernel_rfl
def big{H:Type}(d:DataW H):Nat:=match d with
 |.slice elems spare=>elems.length+spare.length
 |_=>0
theorem zS2{H:Type}{enc:TypeId×Value→H}{W:World}{fuel:Nat}{cs:List Value}{x:DataW H×List MemPlace}
 (h:DataW.trod enc Tryz.prog W 0 (fun _=>true) true fuel 75 cs=some x):∃p:Pr,cs=[.string p.1,.int .i64 p.2]∧p.1.size≤9223372036854775807:=by
 obtain⟨y0,y1,n,_,hl,g0,g1⟩:=trod_struct2 Tryz.underlying75 h;rw[zM1]at hl
 match cs,hl with
 |[v0,v1],_=>
  simp[zQj,zRk]at g0 g1;obtain⟨s,e0,_,w0⟩:=DataW.trod_string Tryz.underlying9 g0;obtain⟨z,e1,_,w1⟩:=DataW.trod_int Tryz.underlying3 g1;simp only[List.cons.injEq,and_true]at e0 e1;subst e0 e1;refine⟨(s,z),rfl,?_⟩;have hw:=w0;unfold maxLen at hw;exact hw
theorem pairs_in{H:Type}{enc:TypeId×Value→H}{W:World}{base:Nat}{v:Value}{d:DataW H}{p:List MemPlace}
 (hok:Value.okWide Tryz.prog W .any base 22 v) (h:DataW.Trod enc Tryz.prog W 0 (fun _=>true) true 22 v d p):∃L:List Pr,PRow W v L∧Sm L∧L.length≤9223372036854775807∧L.length≤big d:=by
 obtain⟨a0,len,cap,rfl⟩:=okWide_slice Tryz.underlying22 hok;obtain⟨fuel,hf⟩:=h;rcases open_slice Tryz.underlying22 hf with⟨hcs,hx⟩|⟨a,len',cap',m,n,D,Pl,hcs,_,hl,hm,hmm,hx,hel⟩
 · simp[Value.cells]at hcs
   obtain⟨rfl,rfl,rfl⟩:=hcs;exact⟨[],PRow.nil W,(fun x hx=>absurd hx List.not_mem_nil),by simp,by simp⟩
 · simp[Value.cells]at hcs
   obtain⟨rfl,rfl,rfl⟩:=hcs;(have hlm:len≤m:=by rw[hmm];split<;>omega);have each:∀i,i<m→∃o:Pr,o.1.size≤9223372036854775807∧W.cell? (a.add (i*2))=some (.string o.1)∧W.cell? (a.add (i*2+1))=some (.int .i64 o.2):=by
    intro i hi;obtain⟨cs',h1,h2⟩:=hel i hi;rw[zM1]at h1;obtain⟨_,hlen,hcell⟩:=World.cells?_some h1;obtain⟨q,rfl,hq⟩:=zS2 h2;have c0:=hcell 0 (by simp);have c1:=hcell 1 (by simp);rw[add_add]at c0 c1;exact⟨q,hq,by simpa using c0,by simpa using c1⟩
   have hch:∃f:Nat→Pr,∀i,i<m→(f i).1.size≤9223372036854775807∧W.cell? (a.add (i*2))=some (.string (f i).1)∧W.cell? (a.add (i*2+1))=some (.int .i64 (f i).2):=
    ⟨fun i=>if hi:i<m then Classical.choose (each i hi)else (ByteArray.empty,0),fun i hi=>by
     simp only[dif_pos hi];exact Classical.choose_spec (each i hi)⟩
   obtain⟨f,hfe⟩:=hch;have hget:∀i o,((List.range len).map f)[i]?=some o→i<len∧o=f i:=fun i o hi=>by
    rw[List.getElem?_map]at hi;have hil:i<len:=by
     cases hr:(List.range len)[i]? with
     |none=>rw[hr]at hi;cases hi
     |some j=>have:=(List.getElem?_eq_some_iff.1 hr).1;simpa using this
    rw[List.getElem?_range hil]at hi;simp only[Option.map_some,Option.some.injEq]at hi;exact⟨hil,hi.symm⟩
   refine⟨(List.range len).map f,⟨some a,cap,by simp,fun h0=>?_⟩,?_,by unfold maxLen at hm;simp;omega,?_⟩
   · have h0':0<len:=by simpa using h0
     obtain⟨b,off,rfl⟩:∃b off,a=⟨b,off,none⟩:=by
      obtain⟨_,c0,_⟩:=hfe 0 (by omega);obtain⟨b,off,sp⟩:=a;cases sp with
      |none=>exact⟨b,off,rfl⟩
      |some s=>exfalso;revert c0;unfold Addr.add World.cell?;split<;>simp
     (have hadd:∀j,(⟨b,off,none⟩:Addr).add j=⟨b,off+j,none⟩:=fun j=>by unfold Addr.add;split<;>simp_all);refine⟨b,off,rfl,?_,fun i o hi=>?_⟩
     · obtain⟨_,c0,_⟩:=hfe 0 (by omega)
       rw[hadd]at c0;exact zAn c0
     · obtain⟨hil,rfl⟩:=hget i o hi
       obtain⟨q1,c0,c1⟩:=hfe i (by omega);rw[hadd]at c0 c1;exact⟨c0,by simpa[Nat.add_assoc]using c1⟩
   · intro x hx
     obtain⟨i,hi⟩:=List.mem_iff_getElem?.1 hx;obtain⟨hil,rfl⟩:=hget i x hi;exact(hfe i (by omega)).1
   · simp only[Prod.mk.injEq]at hx
     obtain⟨rfl,_⟩:=hx;simp[big]
end
