/- What the walk of DiskAll keeps. -/
import Derived.Test.YtpmmpdkeahmdiaaBegAll
import Derived.Test.YtpmmpdkeahmdiaaStands
namespace Go.Proofs.Ytpmmpdkeahmdiaa
open Go.RowKit
set_option maxRecDepth 100000

structure AllR (w : World) (br p : Nat) (d : DS) (wr : World) (k : Nat) (fp : List Nat) (ad : Option Addr) (n c : Nat) : Prop where
  dk : DiskAt k wr p d fp
  ref : RefIs (fun b => b ≠ br ∧ b ∉ fp) wr (rdV (rdOf d) (.slice ad n c)) d
  rb : DskAt wr br (rdOf d) (.slice ad n c)
  below : Below w.heap.size w wr
  fpb : ∀ b ∈ fp, w.heap.size ≤ b
  nfp : br ∉ fp
  ge : w.heap.size ≤ br
theorem AllR.then {w : World} {br p : Nat} {d : DS} {wr wr' : World} {k : Nat} {fp : List Nat} {ad : Option Addr} {n c : Nat} (h : AllR w br p d wr k fp ad n c) (hb : Below wr.heap.size wr wr') : AllR w br p d wr' k fp ad n c :=
  ⟨h.dk.below hb, h.ref.below hb, h.rb.below h.rb.lt hb, h.below.trans (hb.mono h.below.size), h.fpb, h.nfp, h.ge⟩
theorem AllR.alloc {w : World} {br p : Nat} {d : DS} {wr : World} {k : Nat} {fp : List Nat} {ad : Option Addr} {n c : Nat} (h : AllR w br p d wr k fp ad n c) (o : Obj) : AllR w br p d (wr.alloc o) k fp ad n c := h.then ((Below.refl _ wr).alloc (Nat.le_refl _) o)
theorem AllR.next {w : World} {br p bs : Nat} {d d' : DS} {w1 w2 w5 w6 : World} {k : Nat} {fp fp' : List Nat} {ad ad' : Option Addr} {n c n' c' : Nat} (h : AllR w br p d w1 k fp ad n c)
    (hR : RefIs (fun b => (b ≠ br ∧ b ∉ fp) ∨ w1.heap.size ≤ b) w2 (rdV (rdOf d') (.slice ad' n' c')) d') (hb2 : Below w1.heap.size w1 w2) (hbs : w2.heap.size ≤ bs) (h5 : ∀ b, b ≠ br → b ≠ bs → b < w2.heap.size → w5.heap[b]? = w2.heap[b]?) (hs5 : w2.heap.size ≤ w5.heap.size) (hos : w5.os = w2.os) (htp : w5.tape = w2.tape) (hou : w5.output = w2.output)
    (hrb : DskAt w5 br (rdOf d') (.slice ad' n' c')) (hd6 : DiskAt (k + 1) w6 p d' fp') (ho6 : Only fp w5 w6) (hf6 : ∀ b ∈ fp', b ∈ fp ∨ w5.heap.size ≤ b) : AllR w br p d' w6 (k + 1) fp' ad' n' c' := by
  have hs1 := hb2.size
  have lt1 := h.dk.lt
  have lbr := h.rb.lt
  have hst : ∀ b, b < w2.heap.size → b ≠ br → b ∉ fp → w6.heap[b]? = w2.heap[b]? := fun b hb h1 h2 => (ho6.block b (by omega) h2).trans (h5 b h1 (by omega) hb)
  have nf' : ∀ b, b < w5.heap.size → b ∉ fp → b ∉ fp' := fun b hb h1 h2 => by rcases hf6 b h2 with h | h; exact h1 h; omega
  refine ⟨hd6, ?_, ?_, ?_, ?_, nf' br (by omega) h.nfp, h.ge⟩
  · refine ((hR.mono fun b hb hP => (⟨hP, hb⟩ : ((b ≠ br ∧ b ∉ fp) ∨ w1.heap.size ≤ b) ∧ b < w2.heap.size)).same (by have := ho6.size; omega) fun b hb hl => ?_).mono fun b _ hb => ?_
    · rcases hb.1 with ⟨h1, h3⟩ | hb
      · exact hst b hl h1 h3
      · exact hst b hl (by omega) (fun hm => by have := lt1 b hm; omega)
    · obtain ⟨hb, hl⟩ := hb
      rcases hb with ⟨h1, h3⟩ | hb
      · exact ⟨h1, nf' b (by omega) h3⟩
      · exact ⟨by omega, nf' b (by omega) fun hm => by have := lt1 b hm; omega⟩
  · exact (ho6.block br (by omega) h.nfp).trans hrb
  · have e1 : Below w.heap.size w w2 := h.below.trans (hb2.mono h.below.size)
    have e2 : Below w.heap.size w2 w5 := ⟨hos, htp, hou, hs5, fun b hb => h5 b (by have := h.ge; omega) (by have := e1.size; omega) (by have := e1.size; omega)⟩
    exact (e1.trans e2).trans (ho6.below (by have := e1.size; omega) h.fpb)
  · intro b hb
    rcases hf6 b hb with h1 | h1
    · exact h.fpb b h1
    · have := h.below.size; omega
end Go.Proofs.Ytpmmpdkeahmdiaa
