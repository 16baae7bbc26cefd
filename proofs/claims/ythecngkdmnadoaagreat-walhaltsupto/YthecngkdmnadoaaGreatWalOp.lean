/- Open: what it comes to. -/
import Derived.Test.YthecngkdmnadoaaGreatG41
namespace Go.Proofs.YthecngkdmnadoaaGreat
open Go.RowKit
set_option maxRecDepth 100000

/-- The numbers of the segments on a disk. -/
def numsN (d : DS) : List Nat := (numsOf (areasS d.secs)).map Int.toNat
/-- The number of the segment that is begun next. -/
def nextN (d : DS) (fr : Nat) : Nat := match (numsN d).getLast? with
  | none => fr
  | some x => max fr (x + 1)
def takesG (fr : Nat) : LG → List Nat → Int × LG
  | g, [] => (0, g)
  | g, n :: r => if n < fr then takesG fr g r else if ¬ (takeG g n).1 = 0 then takeG g n else takesG fr (takeG g n).2 r
def startG (d : DS) (fr first : Nat) : LG := ⟨d, first, nextN d fr, 4 * nextN d fr + 1, 0, false, 0, [], [], []⟩
def openG (d : DS) (fr first : Nat) : Int × LG :=
  if d.dead = true then (30, startG d fr first)
  else if 1152921504606846976 < nextN d fr ∨ 4611686018427387904 < first then (52, startG d fr first)
  else if ¬ (takesG fr (startG d fr first) (numsN d)).1 = 0 then takesG fr (startG d fr first) (numsN d)
  else tidyG (takesG fr (startG d fr first) (numsN d)).2 (numsN d)
/-- What take leaves as it was. -/
structure TkOk (g g2 : LG) (n : Nat) : Prop where
  d : g2.d = g.d
  next : g2.next = g.next
  area : g2.area = g.area
  sector : g2.sector = g.sector
  tl : g2.tl = g.tl
  adrift : g2.adrift = g.adrift
  fault : g2.fault = g.fault
  first : g.first ≤ 4611686018427387904 → g2.first ≤ 4611686018427387904
  L : g2.L.length ≤ g.L.length + 4200000
  l : g2.l = g.l ∨ ∃ ix, g2.l = g.l ++ [(n, ix)]
theorem recsR_ok : ∀ (f : Nat) (g : LG) (xs : List Nat), (recsR f g xs).2.d = g.d ∧ (recsR f g xs).2.next = g.next ∧ (recsR f g xs).2.area = g.area ∧ (recsR f g xs).2.sector = g.sector ∧ (recsR f g xs).2.tl = g.tl ∧ (recsR f g xs).2.adrift = g.adrift ∧ (recsR f g xs).2.fault = g.fault ∧ (recsR f g xs).2.first = g.first ∧ (recsR f g xs).2.L.length ≤ g.L.length + f ∧ (recsR f g xs).2.l = g.l
  | 0, g, _ => ⟨rfl, rfl, rfl, rfl, rfl, rfl, rfl, rfl, Nat.le_refl _, rfl⟩
  | f + 1, g, xs => by
    by_cases h : (bytesR xs 0 512).2.2 = 0
    · by_cases h2 : g.first + g.L.length = 4611686018427387904
      · rw [recsR_full h h2]
        exact ⟨rfl, rfl, rfl, rfl, rfl, rfl, rfl, rfl, Nat.le_add_right _ _, rfl⟩
      · rw [recsR_go h h2]
        obtain ⟨a1, a2, a3, a4, a5, a6, a7, a8, a9, a10⟩ := recsR_ok f { g with L := g.L ++ [(bytesR xs 0 512).1] } (bytesR xs 0 512).2.1
        refine ⟨a1, a2, a3, a4, a5, a6, a7, a8, ?_, a10⟩
        simp only [List.length_append, List.length_singleton] at a9
        omega
    · rw [recsR_end h]
      exact ⟨rfl, rfl, rfl, rfl, rfl, rfl, rfl, rfl, Nat.le_add_right _ _, rfl⟩
theorem takeG_ok (g : LG) (n : Nat) (hB : ∀ i u, curOf g.d.secs ((4 * n + 1 : Nat) : Int) i = some u → ∀ y ∈ u, y < 256) : TkOk g (takeG g n).2 n := by
  have hT : ∀ y ∈ textS g.d.secs ((4 * n + 1 : Nat) : Int), y < 256 := textF_byte hB _ _
  have hTl : (textS g.d.secs ((4 * n + 1 : Nat) : Int)).length ≤ 4128768 := Nat.le_trans (textF_len _ _) (by decide)
  have hix := askR_most hT
  have hrl := askR_rest (textS g.d.secs ((4 * n + 1 : Nat) : Int))
  unfold takeG
  split
  · exact ⟨rfl, rfl, rfl, rfl, rfl, rfl, rfl, id, Nat.le_add_right _ _, .inl rfl⟩
  · split
    · exact ⟨rfl, rfl, rfl, rfl, rfl, rfl, rfl, id, Nat.le_add_right _ _, .inl rfl⟩
    · obtain ⟨ix, rest, ae, hA⟩ : ∃ ix rest ae, askR (textS g.d.secs ((4 * n + 1 : Nat) : Int)) = (ix, rest, ae) := ⟨_, _, _, rfl⟩
      rw [hA] at hix hrl ⊢
      dsimp only at hix hrl ⊢
      obtain ⟨a1, a2, a3, a4, a5, a6, a7, a8, a9, a10⟩ := recsR_ok (rest.length + 1) (headR g n ix) rest
      have hh : (headR g n ix).d = g.d ∧ (headR g n ix).next = g.next ∧ (headR g n ix).area = g.area ∧ (headR g n ix).sector = g.sector ∧ (headR g n ix).tl = g.tl ∧ (headR g n ix).adrift = g.adrift ∧ (headR g n ix).fault = g.fault ∧ ((headR g n ix).first = ix ∨ (headR g n ix).first = g.first) ∧ (headR g n ix).L.length ≤ g.L.length ∧ (headR g n ix).l = g.l ++ [(n, ix)] := by
        unfold headR
        split
        · exact ⟨rfl, rfl, rfl, rfl, rfl, rfl, rfl, .inl rfl, Nat.zero_le _, rfl⟩
        · exact ⟨rfl, rfl, rfl, rfl, rfl, rfl, rfl, .inr rfl, by simp only [List.length_take]; omega, rfl⟩
      obtain ⟨b1, b2, b3, b4, b5, b6, b7, b8, b9, b10⟩ := hh
      exact ⟨a1.trans b1, a2.trans b2, a3.trans b3, a4.trans b4, a5.trans b5, a6.trans b6, a7.trans b7, fun h => by rcases b8 with h8 | h8 <;> omega, by omega, .inr ⟨ix, a10.trans b10⟩⟩
/-- What is small of a log that is being opened, behind i segments. -/
structure OpOk (d : DS) (nx : Nat) (i : Nat) (g : LG) : Prop where
  d : g.d = d
  next : g.next = nx
  sector : g.sector = 0
  tl : g.tl = []
  adrift : g.adrift = false
  fault : g.fault = 0
  area : g.area = 4 * nx + 1
  first : g.first ≤ 4611686018427387904
  L : g.L.length ≤ i * 4200000
  l : g.l.length ≤ i
  pl : ∀ y ∈ g.l, y.1 ≤ 1152921504606846976
theorem OpOk.take {d : DS} {nx i n : Nat} {g g2 : LG} (h : OpOk d nx i g) (ht : TkOk g g2 n) (hn : n ≤ 1152921504606846976) : OpOk d nx (i + 1) g2 := by
  refine ⟨ht.d.trans h.d, ht.next.trans h.next, ht.sector.trans h.sector, ht.tl.trans h.tl, ht.adrift.trans h.adrift, ht.fault.trans h.fault, ht.area.trans h.area, ht.first h.first, ?_, ?_, fun y hy => ?_⟩
  · have h1 := ht.L; have h2 := h.L; omega
  · rcases ht.l with e | ⟨ix, e⟩ <;> rw [e]
    · have := h.l; omega
    · have := h.l; simp only [List.length_append, List.length_singleton]; omega
  · rcases ht.l with e | ⟨ix, e⟩ <;> rw [e] at hy
    · exact h.pl y hy
    · rcases List.mem_append.1 hy with h1 | h1
      · exact h.pl y h1
      · rw [List.mem_singleton.1 h1]; exact hn
theorem OpOk.more {d : DS} {nx i : Nat} {g : LG} (h : OpOk d nx i g) : OpOk d nx (i + 1) g := ⟨h.d, h.next, h.sector, h.tl, h.adrift, h.fault, h.area, h.first, Nat.le_trans h.L (Nat.mul_le_mul_right _ (Nat.le_succ i)), Nat.le_succ_of_le h.l, h.pl⟩
theorem OpOk.lok {d : DS} {nx i : Nat} {g : LG} (h : OpOk d nx i g) (hi : i ≤ 16000) (hn : nx ≤ 1152921504606846976) : LOk g := ⟨by rw [h.next]; exact hn, h.pl, by have := h.l; omega, by rw [h.tl, List.length_nil]; omega, by rw [h.sector]; exact Nat.zero_le _, by have := h.L; omega, h.first⟩
/-- The row of numbers that numbersOn gives. -/
theorem NOwn.nrow {B : Nat} {F : List Nat} {w : World} {v : Value} {ys : List Int} {xs : List Nat} (h : NOwn B w v ys) (he : ys = xs.map Int.ofNat) (hF : ∀ k ∈ F, k < B) : NRow F w v xs := by
  subst he
  obtain ⟨_, ⟨rfl, h0⟩ | ⟨g, cap, cur, rfl, hg, hh, h3, h4, h5, h6⟩⟩ := h
  · rw [List.length_map] at h0
    exact ⟨none, 0, by rw [h0], fun h => by omega⟩
  · refine ⟨some ⟨g, 0, none⟩, cap, by rw [List.length_map], fun _ => ⟨g, rfl, (Array.getElem?_eq_some_iff.1 hh).1, fun hm => by have := hF g hm; omega, fun i x hx => ?_⟩⟩
    have h1 : ((xs.map Int.ofNat).map (Value.int .u64))[i]? = some (.int .u64 (x : Int)) := by simp [List.getElem?_map, hx]
    rw [← h6, List.getElem?_take] at h1
    split at h1
    · simpa [World.cell?, hh] using h1
    · cases h1
theorem numsN_eq (d : DS) (hok : ∀ a ∈ areasS d.secs, 0 ≤ a ∧ a < 18446744073709551616) : numsOf (areasS d.secs) = (numsN d).map Int.ofNat := by
  unfold numsN
  rw [List.map_map]
  conv => lhs; rw [← List.map_id (numsOf (areasS d.secs))]
  refine List.map_congr_left fun a ha => ?_
  unfold numsOf at ha
  obtain ⟨c, hc, rfl⟩ := List.mem_map.1 ha
  have h1 := hok c (List.mem_filter.1 hc).1
  have h2 : 0 ≤ c.tdiv 4 := by rw [Int.tdiv_eq_ediv_of_nonneg h1.1]; omega
  simp only [Function.comp, id]
  have h3 : Int.ofNat (c.tdiv 4).toNat = ((c.tdiv 4).toNat : Int) := rfl
  omega
end Go.Proofs.YthecngkdmnadoaaGreat
