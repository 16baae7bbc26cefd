import Derived.Test.YtkdhdehobdfakaaGreatDoorJ19
namespace Go.Proofs.YtkdhdehobdfakaaGreatDoor
open Go.RowKit Nums Fm Pm
set_option maxRecDepth 100000
def zL5(v:Value)(l:List Pr)(w:World):Prop:=
 Calls Tryz.prog 8 #[v] w fun e w'=>∃base vs b,e = .returned (.agg #[.int .i64 base,vs])∧BuildSays w w' l base vs b
structure RBlk(rb:Nat)(w:World):Prop where
 blk:w.heap[rb]?=some (.cells #[.int .i64 0,.slice none 0 0] 31)
theorem RBlk.facts{rb:Nat}{w:World}(h:RBlk rb w):w.cell? ⟨rb,0,none⟩=some (.int .i64 0)∧w.cell? ⟨rb,1,none⟩=some (.slice none 0 0)∧∀o,w.frozen? ⟨rb,o,none⟩=false:=⟨by simp[World.cell?,h.blk],by simp[World.cell?,h.blk],fun o=>by simp[World.frozen?,h.blk]⟩
theorem RBlk.below{rb:Nat}{w w':World}(h:RBlk rb w)(hb:Below w.heap.size w w'):RBlk rb w':=⟨(hb.block rb (Array.getElem?_eq_some_iff.1 h.blk).1).trans h.blk⟩
theorem RBlk.lt{rb:Nat}{w:World}(h:RBlk rb w):rb<w.heap.size:=(Array.getElem?_eq_some_iff.1 h.blk).1
theorem StRow.same{B:Nat}{w w':World}{vs:Value}{b:List St}(h:StRow B w vs b)(he:∀g,B≤g→w'.heap[g]?=w.heap[g]?):StRow B w' vs b:=by
 obtain⟨xss,h1,h2,h3⟩:=h;refine⟨xss,h1.same fun g hg=>he g (h1.block hg).1,h2,fun i s hi=>?_⟩;obtain⟨va,e1,e2⟩:=h3 i s hi;exact⟨va,e1,GOwn.same e2 fun g hg=>he g (GOwn.block e2 hg).1⟩
