/- SlotSaves: what stays. -/
import Derived.Test.YtpmmpdkeahmdiaaSOpens
import Derived.Test.YtpmmpdkeahmdiaaRSave2
import Derived.Test.YtpmmpdkeahmdiaaVals
namespace Go.Proofs.Ytpmmpdkeahmdiaa
open Go.RowKit
set_option maxRecDepth 100000

theorem wrD_bytes {d : DS} {a n : Int} {xs : List Nat} (hx : ∀ x ∈ xs, x < 256) (h : ByteS d.secs) : ByteS (wrD d a n xs).secs := by
  unfold wrD
  split
  · exact h
  · split
    · exact h
    · split
      · exact h
      · exact bytes_wr h (pad_byte hx)
theorem syD_bytes {d : DS} {a : Int} (h : ByteS d.secs) : ByteS (syD d a).secs := by
  unfold syD
  split
  · exact bytes_sy h _
  · rw [(stepD_secs _).1]; exact h
theorem saveD_bytes {d : DS} {a : Int} {n : Nat} {xs : List Nat} (hx : ∀ x ∈ xs, x < 256) (h : ByteS d.secs) : ByteS (saveD d a n xs).1.secs := by
  unfold saveD
  split
  · exact h
  · rename_i hlg
    have hb := lay_byte (n := n + 1) (xs := xs) (by omega) hx
    split
    · exact syD_bytes (wrD_bytes hb h)
    · exact wrD_bytes hb h
theorem saveD_ok {d : DS} {a : Int} {n : Nat} {xs : List Nat} (h : (saveD d a n xs).2 = 0) : xs.length ≤ 48 ∧ n ≠ 18446744073709551615 := by
  unfold saveD at h
  split at h
  · cases h
  · omega
/-- What a round finds. -/
structure SavR (w : World) (br bt s p N : Nat) (d : DS) (n : Nat) (val : List Nat) (W : World) (fp : List Nat) (g : Nat) (ad : Option Addr) (m c : Nat) : Prop where
  dk : DiskAt N W p d fp
  ref : RefIs (fun b => b ≠ s ∧ b ≠ br ∧ b ≠ bt ∧ b ∉ fp) W (rdV (rdOf d) (.slice ad m c)) d
  rb : DskAt W br (rdOf d) (.slice ad m c)
  tb : SltAt W bt ⟨1, n, strB val⟩
  sl : SlotAt W s p 1 n val g
  byt : ByteS d.secs
  l48 : val.length ≤ 48
  nn : n < 18446744073709551616
  sf : s ∉ fp
  gf : g ∉ fp
  bf : br ∉ fp ∧ bt ∉ fp
  ne : br ≠ bt ∧ s ≠ br ∧ s ≠ bt ∧ g ≠ br ∧ g ≠ bt
  ge : w.heap.size ≤ s ∧ w.heap.size ≤ br ∧ w.heap.size ≤ bt
  fpb : ∀ b ∈ fp, w.heap.size ≤ b
  below : Below w.heap.size w W
theorem SavR.then {w : World} {br bt s p N : Nat} {d : DS} {n : Nat} {val : List Nat} {W W' : World} {fp : List Nat} {g : Nat} {ad : Option Addr} {m c : Nat} (h : SavR w br bt s p N d n val W fp g ad m c) (hb : Below W.heap.size W W') : SavR w br bt s p N d n val W' fp g ad m c :=
  ⟨h.dk.below hb, h.ref.below hb, h.rb.below h.rb.lt hb, h.tb.below h.tb.lt hb, h.sl.below hb, h.byt, h.l48, h.nn, h.sf, h.gf, h.bf, h.ne, h.ge, h.fpb, h.below.trans (hb.mono h.below.size)⟩
/-- Behind the slot's Save: what the reference is called with. -/
theorem SavR.saved {w : World} {br bt s p N : Nat} {d : DS} {n : Nat} {val : List Nat} {W w4 : World} {fp : List Nat} {g : Nat} {ad : Option Addr} {m c : Nat} (h : SavR w br bt s p N d n val W fp g ad m c) (ho : Only (s :: fp) W w4) :
    RefIs (fun b => (b ≠ s ∧ b ≠ br ∧ b ≠ bt ∧ b ∉ fp) ∧ b < W.heap.size) w4 (rdV (rdOf d) (.slice ad m c)) d ∧ DskAt w4 br (rdOf d) (.slice ad m c) ∧ SltAt w4 bt ⟨1, n, strB val⟩ ∧ Below w.heap.size w w4 := by
  refine ⟨((h.ref.mono fun b hb hP => (⟨hP, hb⟩ : (b ≠ s ∧ b ≠ br ∧ b ≠ bt ∧ b ∉ fp) ∧ b < W.heap.size)).same ho.size fun b hb hl => ho.block b hl fun hm => ?_), (ho.block _ h.rb.lt fun hm => ?_).trans h.rb, (ho.block _ h.tb.lt fun hm => ?_).trans h.tb, h.below.trans (ho.below h.below.size fun b hb => ?_)⟩
  · rcases List.mem_cons.1 hm with e | e
    · exact hb.1.1 e
    · exact hb.1.2.2.2 e
  · rcases List.mem_cons.1 hm with e | e
    · exact h.ne.2.1 e.symm
    · exact h.bf.1 e
  · rcases List.mem_cons.1 hm with e | e
    · exact h.ne.2.2.1 e.symm
    · exact h.bf.2 e
  · rcases List.mem_cons.1 hb with rfl | e
    · exact h.ge.1
    · exact h.fpb b e
theorem SavR.next {w : World} {br bt s p N : Nat} {d : DS} {n : Nat} {val xs : List Nat} {W w4 w5 w6 w7 : World} {fp fp' : List Nat} {g g' : Nat} {ad ad' : Option Addr} {m c m' c' : Nat} (h : SavR w br bt s p N d n val W fp g ad m c) (hx : ∀ x ∈ xs, x < 256)
    (hsa : SaveAt N s p d fp 1 n val xs g W (saveD d 1 n xs).2 w4 fp' g') (hR : RefIs (fun b => ((b ≠ s ∧ b ≠ br ∧ b ≠ bt ∧ b ∉ fp) ∧ b < W.heap.size) ∨ w4.heap.size ≤ b) w5 (rdV (rdOf (saveD d 1 n xs).1) (.slice ad' m' c')) (saveD d 1 n xs).1)
    (hb5 : Below w4.heap.size w4 w5) (hb6 : Below w5.heap.size w5 w6) (ho : TwoOff br bt w6 w7) (hrb : DskAt w7 br (rdOf (saveD d 1 n xs).1) (.slice ad' m' c')) (htb : SltAt w7 bt (newT ⟨1, n, strB val⟩ xs (saveD d 1 n xs).2)) :
    SavR w br bt s p (N + 2) (saveD d 1 n xs).1 (if (saveD d 1 n xs).2 = 0 then n + 1 else n) (if (saveD d 1 n xs).2 = 0 then xs else val) w7 fp' g' ad' m' c' := by
  have lbr := h.rb.lt
  have lbt := h.tb.lt
  have lsl := h.sl.lt
  have hz4 := hsa.only.size
  have hz5 := hb5.size
  have hz6 := hb6.size
  have l4 := hsa.disk.lt
  have b45 : Below w4.heap.size w4 w6 := hb5.trans (hb6.mono hz5)
  have nf : ∀ b, b < W.heap.size → b ∉ fp → b ∉ fp' := fun b hb h1 h2 => by rcases hsa.sub b h2 with h3 | h3; exact h1 h3; omega
  have nbr := nf br lbr h.bf.1
  have nbt := nf bt lbt h.bf.2
  have gne : g' ≠ br ∧ g' ≠ bt := by
    rcases hsa.gg with e | e | e
    · rw [e]; exact ⟨h.ne.2.2.2.1, h.ne.2.2.2.2⟩
    · rw [e]; exact ⟨h.ne.2.1, h.ne.2.2.1⟩
    · omega
  have hs6 := hsa.slot.below b45
  refine ⟨(hsa.disk.below b45).same fun b hb => ho.far b (fun e => nbr (e ▸ hb)) (fun e => nbt (e ▸ hb)), ?_, hrb, ?_, hs6.same (Nat.le_of_eq ho.size.symm) (ho.far _ h.ne.2.1 h.ne.2.2.1) (ho.far _ gne.1 gne.2), saveD_bytes hx h.byt, ?_, ?_, hsa.sf, hsa.gf, ⟨nbr, nbt⟩, ⟨h.ne.1, h.ne.2.1, h.ne.2.2.1, gne.1, gne.2⟩, h.ge, fun b hb => ?_, ?_⟩
  · refine (((hR.mono fun b hb hP => (⟨hP, hb⟩ : (((b ≠ s ∧ b ≠ br ∧ b ≠ bt ∧ b ∉ fp) ∧ b < W.heap.size) ∨ w4.heap.size ≤ b) ∧ b < w5.heap.size)).same (by rw [ho.size]; exact hz6) fun b hb hl => ?_)).mono fun b _ hb => ?_
    · refine (ho.far b ?_ ?_).trans (hb6.block b hl)
      · rcases hb.1 with h1 | h1
        · exact h1.1.2.1
        · omega
      · rcases hb.1 with h1 | h1
        · exact h1.1.2.2.1
        · omega
    · rcases hb.1 with h1 | h1
      · exact ⟨h1.1.1, h1.1.2.1, h1.1.2.2.1, nf b h1.2 h1.1.2.2.2⟩
      · exact ⟨by omega, by omega, by omega, fun hm => by have := l4 b hm; omega⟩
  · unfold newT at htb
    split
    · rename_i h0; rw [if_pos h0] at htb; exact htb
    · rename_i h0; rw [if_neg h0] at htb; exact htb
  · split
    · rename_i h0; exact (saveD_ok h0).1
    · exact h.l48
  · split
    · rename_i h0; have := (saveD_ok h0).2; have := h.nn; omega
    · exact h.nn
  · rcases hsa.sub b hb with h1 | h1
    · exact h.fpb b h1
    · have := h.below.size; omega
  · have hb4 := (h.saved hsa.only).2.2.2
    exact ho.below _ _ h.ge.2.1 h.ge.2.2 (hb4.trans (b45.mono hb4.size))
end Go.Proofs.Ytpmmpdkeahmdiaa
