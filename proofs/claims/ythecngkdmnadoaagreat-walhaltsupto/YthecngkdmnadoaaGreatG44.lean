/- Texts that were written apart, joined. -/
import Derived.Test.YthecngkdmnadoaaGreatWalOp2
import Derived.Test.YthecngkdmnadoaaGreatWalB
import Derived.Test.YthecngkdmnadoaaGreatDrawn
import Derived.Test.YthecngkdmnadoaaGreatG37
import Derived.Test.YthecngkdmnadoaaGreatG03
/- What is small of a log, and what a disk that died leaves. -/
namespace Go.Proofs.YthecngkdmnadoaaGreat
open Go.RowKit
set_option maxRecDepth 100000

/-- Behind so many calls. -/
structure GSm (k : Nat) (g : LG) : Prop where
  next : g.next ≤ k
  fl : g.first + g.L.length ≤ k
  many : g.l.length ≤ k
  pl : ∀ y ∈ g.l, y.1 < g.next
  tl : g.tl.length < 63
  sec : g.sector ≤ 40
theorem GSm.lok {k : Nat} {g : LG} (h : GSm k g) (hk : k ≤ 1073741824) : LOk g := by
  have h1 := h.next; have h2 := h.fl; have h3 := h.many; have h5 := h.tl; have h6 := h.sec
  exact ⟨by omega, fun y hy => by have := h.pl y hy; omega, by omega, by omega, by omega, by omega, by omega⟩
theorem GSm.more {k m : Nat} {g : LG} (h : GSm k g) (hm : k ≤ m) : GSm m g := ⟨Nat.le_trans h.next hm, Nat.le_trans h.fl hm, Nat.le_trans h.many hm, h.pl, h.tl, h.sec⟩
theorem layF_small (a : Nat) : ∀ (f : Nat) (d : DS) (s : Nat) (left : List Nat), left.length < f → (layF a f d s left).sector ≤ s + left.length / 63 ∧ ∀ t, (layF a f d s left).tail = some t → t.length < 63
  | 0, _, _, _, h => absurd h (Nat.not_lt_zero _)
  | f + 1, d, s, left, h => by
    by_cases h63 : 63 ≤ left.length
    · by_cases he : wrE d a s (63 :: left.take 63) = 0
      · rw [layF_go h63 he]
        have hl : (left.drop 63).length = left.length - 63 := List.length_drop ..
        obtain ⟨h1, h2⟩ := layF_small a f (wrD d a s (63 :: left.take 63)) (s + 1) (left.drop 63) (by omega)
        exact ⟨by rw [hl] at h1; omega, h2⟩
      · rw [layF_bad h63 he]
        exact ⟨Nat.le_add_right _ _, fun t h => by cases h⟩
    · by_cases h0 : left = []
      · subst h0
        rw [layF_nil]
        exact ⟨Nat.le_add_right _ _, fun t h => by simp only [Option.some.injEq] at h; subst h; decide⟩
      · rw [layF_end h63 h0]
        exact ⟨Nat.le_add_right _ _, fun t h => by simp only [Option.some.injEq] at h; subst h; omega⟩
theorem layR_small (a : Nat) (d : DS) (s : Nat) (left : List Nat) : (layR d a s left).sector ≤ s + left.length / 63 ∧ ∀ t, (layR d a s left).tail = some t → t.length < 63 := layF_small a (left.length + 1) d s left (Nat.lt_succ_self _)
theorem getD_small {o : Option (List Nat)} {z : List Nat} (h : ∀ t, o = some t → t.length < 63) (hz : z.length < 63) : (o.getD z).length < 63 := by
  cases o with
  | none => exact hz
  | some t => exact h t rfl
theorem beginG_small {k : Nat} {g : LG} (h : GSm k g) (ix : Nat) (x : List Nat) (hix : ix < 18446744073709551616) (hx : x.length ≤ 600) : GSm (k + 1) (beginG g ix x).2 := by
  have hm := h.more (Nat.le_succ k)
  have hu := uw_len10 hix
  have hl := layR_small (4 * g.next + 1) (syD g.d g.area) 0 (uw ix ++ x)
  rw [List.length_append] at hl
  unfold beginG
  split
  · exact hm
  · split
    · exact hm
    · split
      · exact ⟨hm.next, hm.fl, hm.many, hm.pl, hm.tl, hm.sec⟩
      · split
        · exact ⟨hm.next, hm.fl, hm.many, hm.pl, hm.tl, hm.sec⟩
        · split
          · exact ⟨hm.next, hm.fl, hm.many, hm.pl, hm.tl, hm.sec⟩
          · refine ⟨Nat.succ_le_succ h.next, hm.fl, ?_, fun y hy => ?_, getD_small hl.2 (by simp), Nat.le_trans hl.1 (by omega)⟩
            · have h1 := keepQ_len ix g.l
              have h2 := h.many
              simp only [List.length_append, List.length_singleton]
              omega
            · show y.1 < g.next + 1
              rcases List.mem_append.1 hy with h1 | h1
              · have := h.pl y (List.mem_filter.1 h1).1; omega
              · rw [List.mem_singleton.1 h1]; exact Nat.lt_succ_self _
theorem extG_small {k : Nat} {g : LG} (h : GSm k g) (x : List Nat) (hx : x.length ≤ 600) (hk : k ≤ 1073741824) : GSm (k + 1) (extG g x).2 := by
  have hm := h.more (Nat.le_succ k)
  unfold extG
  split
  · exact beginG_small h _ x (by have := h.fl; omega) hx
  · rename_i hw
    split
    · exact hm
    · have hl := layR_small g.area g.d g.sector (g.tl ++ x)
      rw [List.length_append] at hl
      have ht := h.tl
      have hs : g.sector < 16 := by
        by_cases h16 : g.sector < 16
        · exact h16
        · exact absurd (decide_eq_true (.inr (by omega))) hw
      exact ⟨hm.next, hm.fl, hm.many, hm.pl, getD_small hl.2 ht, Nat.le_trans hl.1 (by omega)⟩
theorem keepG_small {k : Nat} {r : Int × LG} (h : GSm k r.2) : GSm k (keepG r).2 := by
  unfold keepG
  split
  · exact h
  · exact ⟨h.next, h.fl, h.many, h.pl, h.tl, h.sec⟩
theorem appG_small {k : Nat} {g : LG} (h : GSm k g) (x : List Nat) (hk : k ≤ 1073741824) : GSm (k + 1) (appG g x).2 := by
  have hm := h.more (Nat.le_succ k)
  unfold appG
  split
  · exact hm
  · split
    · exact hm
    · rename_i h5
      have hu := uw_len10 (n := x.length) (by omega)
      have he := keepG_small (extG_small h (uw x.length ++ x) (by rw [List.length_append]; omega) hk)
      split
      · exact hm
      · split
        · exact he
        · refine ⟨he.next, ?_, he.many, he.pl, he.tl, he.sec⟩
          have hL : (keepG (extG g (uw x.length ++ x))).2.L = g.L := by rw [keepG_L, extG_L]
          have hF : (keepG (extG g (uw x.length ++ x))).2.first = g.first := by
            rw [keepG_first]
            unfold extG
            split
            · exact beginG_first _ _ _
            · split <;> rfl
          show (keepG (extG g (uw x.length ++ x))).2.first + ((keepG (extG g (uw x.length ++ x))).2.L ++ [x]).length ≤ k + 1
          rw [hF, hL, List.length_append, List.length_singleton]
          have := h.fl
          omega
theorem sydG_small {k : Nat} {g : LG} (h : GSm k g) : GSm k (sydG g).2 := by
  rw [sydG_g]
  exact ⟨h.next, h.fl, h.many, h.pl, h.tl, h.sec⟩
theorem syncG_small {k : Nat} {g : LG} (h : GSm k g) (hk : k ≤ 1073741824) : GSm (k + 1) (syncG g).2 := by
  have hm := h.more (Nat.le_succ k)
  unfold syncG
  split
  · exact hm
  · split
    · have hb := keepG_small (beginG_small h g.first [] (by have := h.fl; omega) (by simp))
      split
      · exact hb
      · exact sydG_small hb
    · exact sydG_small hm
theorem truncG_small {k : Nat} {g : LG} (h : GSm k g) (i : Nat) (hi : i < 18446744073709551616) : GSm (k + 1) (truncG g i).2 := by
  have hm := h.more (Nat.le_succ k)
  unfold truncG
  split
  · exact hm
  · split
    · exact hm
    · split
      · exact hm
      · have hb := keepG_small (beginG_small h i [] hi (by simp))
        split
        · exact hb
        · refine ⟨hb.next, ?_, hb.many, hb.pl, hb.tl, hb.sec⟩
          have := hb.fl
          show (keepG (beginG g i [])).2.first + ((keepG (beginG g i [])).2.L.take (i - g.first)).length ≤ k + 1
          rw [List.length_take]
          omega
theorem compG_small {k : Nat} {g : LG} (h : GSm k g) (i : Nat) : GSm (k + 1) (compG g i).2 := by
  have hm := h.more (Nat.le_succ k)
  unfold compG
  split
  · exact hm
  · split
    · exact hm
    · split
      · exact hm
      · split
        · exact ⟨hm.next, hm.fl, hm.many, hm.pl, hm.tl, hm.sec⟩
        · refine ⟨hm.next, ?_, ?_, fun y hy => h.pl y (List.mem_of_mem_drop hy), hm.tl, hm.sec⟩
          · have := h.fl
            show i + (g.L.drop (i - g.first)).length ≤ k + 1
            rw [List.length_drop]
            omega
          · have := h.many
            show (g.l.drop _).length ≤ k + 1
            rw [List.length_drop]
            omega
/-- Whoever killed the disk has told so. -/
def EDI (e : Int) (d : DS) : Prop := d.dead = true → e = 30
theorem EDI.of {e : Int} {d : DS} (h : d.dead = false) : EDI e d := fun h1 => by rw [h] at h1; cases h1
theorem EDI.alive {d : DS} (h : EDI 0 d) : d.dead = false := by
  cases hd : d.dead with
  | false => rfl
  | true => exact absurd (h hd) (by decide)
theorem EDI.alive2 {e : Int} {d : DS} (h : EDI e d) (he : ¬ e = 30) : d.dead = false := by
  cases hd : d.dead with
  | false => rfl
  | true => exact absurd (h hd) he
theorem edi_step {d : DS} (h : d.dead = false) : EDI (stepE d) (stepD d) := by
  intro h1
  unfold stepD at h1
  unfold stepE
  rw [if_neg (by rw [h]; decide)] at h1 ⊢
  by_cases ha : (!d.armed) = true
  · rw [if_pos ha] at h1
    exact absurd h1 (by show ¬ d.dead = true; rw [h]; decide)
  · rw [if_neg ha] at h1
    by_cases hz : d.ahead = 0
    · rw [if_pos (by simp at ha; simp [ha, hz])]
    · rw [if_neg hz] at h1
      exact absurd h1 (by show ¬ d.dead = true; rw [h]; decide)
theorem edi_secs {e : Int} {d : DS} (h : EDI e d) (S : List Sec) : EDI e { d with secs := S } := h
theorem edi_sy {d : DS} (h : d.dead = false) (a : Int) : EDI (stepE d) (syD d a) := by
  unfold syD
  split
  · exact edi_secs (edi_step h) _
  · exact edi_step h
theorem edi_fr {d : DS} (h : d.dead = false) (a : Int) : EDI (stepE d) (frD d a) := by
  unfold frD
  split
  · exact edi_secs (edi_step h) _
  · exact edi_step h
theorem edi_wr {d : DS} (h : d.dead = false) (a n : Int) (xs : List Nat) : EDI (wrE d a n xs) (wrD d a n xs) := by
  have hn : ¬ d.dead = true := by rw [h]; decide
  by_cases hf : formBad n xs
  · rw [wrE, wrD, if_neg hn, if_neg hn, if_pos hf, if_pos hf]
    exact EDI.of h
  · by_cases hb : fullBad d a n
    · rw [wrE, wrD, if_neg hn, if_neg hn, if_neg hf, if_neg hf, if_pos hb, if_pos hb]
      exact EDI.of h
    · rw [wrE, wrD, if_neg hn, if_neg hn, if_neg hf, if_neg hf, if_neg hb, if_neg hb]
      exact edi_secs (edi_step h) _
theorem edi_lay (a : Nat) : ∀ (f : Nat) (d : DS) (s : Nat) (left : List Nat), d.dead = false → EDI (layF a f d s left).e (layF a f d s left).d
  | 0, _, _, _, h => EDI.of h
  | f + 1, d, s, left, h => by
    by_cases h63 : 63 ≤ left.length
    · by_cases he : wrE d a s (63 :: left.take 63) = 0
      · rw [layF_go h63 he]
        have h1 := edi_wr h a s (63 :: left.take 63)
        rw [he] at h1
        exact edi_lay a f _ _ _ h1.alive
      · rw [layF_bad h63 he]
        exact edi_wr h a s _
    · by_cases h0 : left = []
      · subst h0
        rw [layF_nil]
        exact EDI.of h
      · rw [layF_end h63 h0]
        exact edi_wr h a s _
theorem edi_frs : ∀ (l : List Pl) (d : DS), d.dead = false → EDI (frsR d l).1 (frsR d l).2
  | [], _, h => EDI.of h
  | x :: r, d, h => by
    rw [frsR]
    have h1 := edi_fr h ((4 * x.1 + 1 : Nat) : Int)
    split
    · rename_i he
      have he' : stepE d = 0 := he
      rw [he'] at h1
      exact edi_frs r _ h1.alive
    · exact h1
theorem edi_ff (d : DS) (a : Int) (ix : Nat) (l : List Pl) (h : d.dead = false) : EDI (ffR d a ix l).1 (ffR d a ix l).2 := by
  unfold ffR
  split
  · split
    · rename_i he
      have h1 := edi_sy h a
      rw [he] at h1
      exact edi_frs _ _ h1.alive
    · exact edi_sy h a
  · exact EDI.of h
theorem edi_ahead (d : DS) (a : Int) (l : List Pl) (i : Nat) (h : d.dead = false) : EDI (aheadR d a l i).1 (aheadR d a l i).2 := by
  cases ht : downTo l i (l.length - 1) with
  | zero => rw [aheadR_none ht]; exact EDI.of h
  | succ t =>
    by_cases he : stepE d = 0
    · rw [aheadR_some ht he]
      have h1 := edi_sy h a
      rw [he] at h1
      exact edi_frs _ _ h1.alive
    · rw [aheadR_dead ht he]
      exact edi_sy h a
theorem edi_begin (g : LG) (ix : Nat) (x : List Nat) (h : g.d.dead = false) : EDI (beginG g ix x).1 (beginG g ix x).2.d := by
  unfold beginG
  have h1 := edi_sy h (g.area : Int)
  split
  · exact EDI.of h
  · split
    · exact EDI.of h
    · split
      · exact h1
      · rename_i hs
        have hs' : stepE g.d = 0 := by simpa using hs
        rw [hs'] at h1
        have h2 : EDI (layR (syD g.d g.area) (4 * g.next + 1) 0 (uw ix ++ x)).e (layR (syD g.d g.area) (4 * g.next + 1) 0 (uw ix ++ x)).d := edi_lay _ _ _ _ _ h1.alive
        split
        · exact h2
        · rename_i hl
          have hl' : (layR (syD g.d g.area) (4 * g.next + 1) 0 (uw ix ++ x)).e = 0 := by simpa using hl
          rw [hl'] at h2
          have h3 := edi_ff (layR (syD g.d g.area) (4 * g.next + 1) 0 (uw ix ++ x)).d ((4 * g.next + 1 : Nat) : Int) ix g.l h2.alive
          split
          · exact h3
          · rename_i hf
            have hf' : (ffR (layR (syD g.d g.area) (4 * g.next + 1) 0 (uw ix ++ x)).d ((4 * g.next + 1 : Nat) : Int) ix g.l).1 = 0 := by simpa using hf
            rw [hf'] at h3
            exact h3
theorem edi_ext (g : LG) (x : List Nat) (h : g.d.dead = false) : EDI (extG g x).1 (extG g x).2.d := by
  unfold extG
  split
  · exact edi_begin _ _ _ h
  · split
    · exact EDI.of h
    · exact edi_lay _ _ _ _ _ h
/-- A log whose disk is dead keeps that. -/
def DI (g : LG) : Prop := g.d.dead = true → g.fault = 30
theorem keepG_d (r : Int × LG) : (keepG r).2.d = r.2.d := by unfold keepG; split <;> rfl
theorem di_keep {r : Int × LG} (h : EDI r.1 r.2.d) : DI (keepG r).2 := by
  intro hd
  rw [keepG_d] at hd
  have he := h hd
  unfold keepG
  rw [if_neg (by rw [he]; decide)]
  exact he
theorem di_app (g : LG) (x : List Nat) (h : g.d.dead = false) : DI (appG g x).2 := by
  have h0 : DI g := fun hd => by rw [h] at hd; cases hd
  unfold appG
  split
  · exact h0
  · split
    · exact h0
    · split
      · exact h0
      · have h1 := di_keep (edi_ext g (uw x.length ++ x) h)
        split
        · exact h1
        · exact h1
theorem di_syd (g : LG) (h : g.d.dead = false) : DI (sydG g).2 := di_keep (edi_sy h (g.area : Int))
theorem di_sync (g : LG) (h : g.d.dead = false) : DI (syncG g).2 := by
  unfold syncG
  split
  · exact fun hd => by rw [h] at hd; cases hd
  · split
    · have h1 := edi_begin g g.first [] h
      split
      · exact di_keep h1
      · rename_i he
        have he' : (beginG g g.first []).1 = 0 := by simpa using he
        rw [he'] at h1
        exact di_syd _ (by rw [keepG_d]; exact h1.alive)
    · exact di_syd _ h
theorem di_trunc (g : LG) (i : Nat) (h : g.d.dead = false) : DI (truncG g i).2 := by
  have h0 : DI g := fun hd => by rw [h] at hd; cases hd
  unfold truncG
  split
  · exact h0
  · split
    · exact h0
    · split
      · exact h0
      · have h1 := di_keep (edi_begin g i [] h)
        split
        · exact h1
        · exact h1
theorem di_comp (g : LG) (i : Nat) (h : g.d.dead = false) : DI (compG g i).2 := by
  have h0 : DI g := fun hd => by rw [h] at hd; cases hd
  unfold compG
  split
  · exact h0
  · split
    · exact h0
    · split
      · exact h0
      · have h1 := edi_ahead g.d (g.area : Int) g.l i h
        split
        · exact h1
        · rename_i he
          have he' : (aheadR g.d (g.area : Int) g.l i).1 = 0 := by simpa using he
          rw [he'] at h1
          intro hd
          have := h1 hd
          exact absurd this (by decide)
end Go.Proofs.YthecngkdmnadoaaGreat

/- The log's Get; the law's near. -/
namespace Go.Proofs.YthecngkdmnadoaaGreat
open Go.RowKit
set_option maxRecDepth 100000

/-- The records of a log: rows of bytes, in memory. -/
def RecsAt (w : World) (ra : Option Addr) (rc : Nat) (L : List (List Nat)) : Prop :=
  L.length ≤ rc ∧ (0 < L.length → ∃ b off, ra = some ⟨b, off, none⟩ ∧ b < w.heap.size ∧ ∀ (i : Nat) (xs : List Nat), L[i]? = some xs → ∃ rv, w.cell? ⟨b, off + i, none⟩ = some rv ∧ Row w.heap.size w rv xs)
theorem RecsAt.below {w w' : World} {ra : Option Addr} {rc : Nat} {L : List (List Nat)} (h : RecsAt w ra rc L) (hb : Below w.heap.size w w') : RecsAt w' ra rc L := by
  refine ⟨h.1, fun h0 => ?_⟩
  obtain ⟨b, off, e, hl, hc⟩ := h.2 h0
  refine ⟨b, off, e, Nat.lt_of_lt_of_le hl hb.size, fun i xs hi => ?_⟩
  obtain ⟨rv, h1, h2⟩ := hc i xs hi
  exact ⟨rv, (hb.cell (p := ⟨b, off + i, none⟩) hl).trans h1, (h2.below hb).mono hb.size⟩
/-- What Get reads. -/
structure SGt (b first many rb off rc j : Nat) (rv : Value) (W : World) : Prop where
  c1 : W.cell? ⟨b, 1, none⟩ = some (.int .u64 (first : Int))
  c2 : W.cell? ⟨b, 2, none⟩ = some (.slice (some ⟨rb, off, none⟩) many rc)
  ce : W.cell? ⟨rb, off + j, none⟩ = some rv
theorem SGt.facts {b first many rb off rc j : Nat} {rv : Value} {W : World} (h : SGt b first many rb off rc j rv W) : W.cell? ⟨b, 1, none⟩ = some (.int .u64 (first : Int)) ∧ W.cell? ⟨b, 2, none⟩ = some (.slice (some ⟨rb, off, none⟩) many rc) ∧ W.cell? ⟨rb, off + j, none⟩ = some rv := ⟨h.c1, h.c2, h.ce⟩
def nearZ (z : Int) : Bool := decide (-1000000 < z ∧ z < 1000000)
theorem near_any (k z : Int) (bv : Value) (w : World) : Calls Tryz.prog 13 #[.agg #[.int .i64 k, .int .i64 z, bv]] w fun e w' => e = .returned (.bool (nearZ z)) ∧ Below w.heap.size w w' := by
  by_cases h1 : -1000000 < z
  · by_cases h2 : z < 1000000
    · have HE : Hid (nearZ z = true) := decide_eq_true ⟨h1, h2⟩
      go_enter Tryz.func13, Tryz.ntmps13
      go_wp2
      go_ret
      exact ⟨by rw [HE.out]; rfl, (Below.refl _ w).alloc (Nat.le_refl _) _⟩
    · have HE : Hid (nearZ z = false) := decide_eq_false (fun h => h2 h.2)
      go_enter Tryz.func13, Tryz.ntmps13
      go_wp2
      go_ret
      exact ⟨by rw [HE.out]; rfl, (Below.refl _ w).alloc (Nat.le_refl _) _⟩
  · have HE : Hid (nearZ z = false) := decide_eq_false (fun h => h1 h.1)
    go_enter Tryz.func13, Tryz.ntmps13
    go_wp2
    go_ret
    exact ⟨by rw [HE.out]; rfl, (Below.refl _ w).alloc (Nat.le_refl _) _⟩
def GetSays (n : WN) (L : List (List Nat)) (i : Nat) (w : World) (e : Ending) (w' : World) : Prop :=
  Below w.heap.size w w' ∧ ((¬ (n.first ≤ i ∧ i < n.first + n.many) ∧ e = .returned (.tuple #[.slice none 0 0, .bool false])) ∨ ∃ xs rv, (n.first ≤ i ∧ i < n.first + n.many) ∧ L[i - n.first]? = some xs ∧ e = .returned (.tuple #[rv, .bool true]) ∧ Row w'.heap.size w' rv xs)
set_option maxHeartbeats 1000000 in
theorem Get_any (w : World) (b : Nat) (n : WN) (v : WV) (L : List (List Nat)) (i : Nat) (h : WalAt w b n v) (hr : RecsAt w v.ra v.rc L) (hL : L.length = n.many) (hs : n.first + n.many < 18446744073709551616) (hm : n.many ≤ 4611686018427387904) (hx : ∀ xs ∈ L, xs.length ≤ 140737488355328) :
    Calls Tryz.prog 36 #[.pointer (some ⟨b, 0, none⟩), .int .u64 (i : Int)] w (GetSays n L i w) := by
  have HW : Hid (WalAt w b n v) := h
  have HR : Hid (RecsAt w v.ra v.rc L) := hr
  have HX : Hid (∀ xs ∈ L, xs.length ≤ 140737488355328) := hx
  have HL : Hid (L.length = n.many) := hL
  obtain ⟨c0, c1, c2, c3, c4, c5, c6, c7, c8, c9, cz⟩ := h.cells
  clear h hr c0 c3 c4 c5 c6 c7 c8 c9 hL hx
  by_cases h1 : i < n.first
  · have h1' : (i : Int) < (n.first : Int) := by omega
    have HE : Hid (¬ (n.first ≤ i ∧ i < n.first + n.many)) := fun hh => by omega
    clear h1
    go_enter Tryz.func36, Tryz.ntmps36
    go_wp2_with fail
    go_ret2
    exact ⟨Below.refl _ _, .inl ⟨HE.out, rfl⟩⟩
  · have h1' : ¬ (i : Int) < (n.first : Int) := by omega
    by_cases h2 : n.first + n.many ≤ i
    · have h2' : ((n.first + n.many : Nat) : Int) ≤ (i : Int) := by omega
      have HE : Hid (¬ (n.first ≤ i ∧ i < n.first + n.many)) := fun hh => by omega
      clear h1 h2
      go_enter Tryz.func36, Tryz.ntmps36
      go_wp2_with fail
      refine (wend_any w b n v HW.out hs (by omega)).mono ?_
      rintro e w1 ⟨rfl, k, rfl⟩
      obtain ⟨en, hen⟩ : ∃ en, n.first + n.many = en := ⟨_, rfl⟩
      rw [hen] at h2'
      rw [hen]
      clear hen
      go_wp2_with fail
      go_ret2
      exact ⟨below_drewN (Below.refl _ w) k, .inl ⟨HE.out, rfl⟩⟩
    · have h2' : ¬ ((n.first + n.many : Nat) : Int) ≤ (i : Int) := by omega
      obtain ⟨j, hj⟩ : ∃ j, i - n.first = j := ⟨_, rfl⟩
      have hjm : j < n.many := by omega
      obtain ⟨rb, off, hra, hrl, hel⟩ := HR.out.2 (by rw [HL.out]; omega)
      obtain ⟨xs, hxs⟩ : ∃ xs, L[j]? = some xs := ⟨_, List.getElem?_eq_getElem (by rw [HL.out]; exact hjm)⟩
      obtain ⟨rv, hc, hrow⟩ := hel j xs hxs
      have HRow : Hid (Row w.heap.size w rv xs) := hrow
      have HXS : Hid (L[i - n.first]? = some xs) := by show _ = _; rw [hj]; exact hxs
      have HE : Hid (n.first ≤ i ∧ i < n.first + n.many) := ⟨by omega, by omega⟩
      have hxl := HX.out xs (List.mem_of_getElem? hxs)
      have hji : (i : Int) - (n.first : Int) = (j : Int) := by omega
      have hjl : (j : Int) < (n.many : Int) := by omega
      have hwj : IntKind.u64.wrap (j : Int) = (j : Int) := by simp [IntKind.wrap, IntKind.bits, IntKind.signed]; omega
      have hrc : n.many ≤ v.rc := by have := HR.out.1; rw [HL.out] at this; exact this
      rw [hra] at c2
      clear hel hrow hxs h1 h2
      go_enter Tryz.func36, Tryz.ntmps36
      go_wp2_with fail
      refine (wend_any w b n v HW.out hs (by omega)).mono ?_
      rintro e w1 ⟨rfl, k, rfl⟩
      obtain ⟨en, hen⟩ : ∃ en, n.first + n.many = en := ⟨_, rfl⟩
      rw [hen] at h2'
      rw [hen]
      clear hen
      have HS : Hid (SGt b n.first n.many rb off v.rc j rv (w.drewN k).drew) := ⟨c1, c2, hc⟩
      go_wp2_with fail
      refine region_at (S := SGt b n.first n.many rb off v.rc j rv) 15 rfl (by kernel_rfl) HS.out (fun hHeld => ?_)
      refine take_at (i := 0) 18 rfl rfl (by kernel_rfl) (by kernel_rfl) (by kernel_rfl) (fun _ _ _ h => h) (by rfl) (fun w hSw => by (have hSw2 := SGt.facts hSw; clear hSw; go_simp; first | done | exact rfl)) (by assumption) ?_
      simp only [List.setIfInBounds_toArray, List.set_cons_zero, List.set_cons_succ]
      refine take_at (i := 1) 19 rfl rfl (by kernel_rfl) (by kernel_rfl) (by kernel_rfl) (fun _ _ _ h => h) (by rfl) (fun w hSw => by (have hSw2 := SGt.facts hSw; clear hSw; go_simp; first | done | exact rfl)) (by assumption) ?_
      simp only [List.setIfInBounds_toArray, List.set_cons_zero, List.set_cons_succ]
      refine take_at (i := 2) 20 rfl rfl (by kernel_rfl) (by kernel_rfl) (by kernel_rfl) (fun _ _ _ h => h) (by rfl) (fun w hSw => by (have hSw2 := SGt.facts hSw; clear hSw; go_simp; first | done | exact rfl)) (by assumption) ?_
      simp only [List.setIfInBounds_toArray, List.set_cons_zero, List.set_cons_succ]
      refine take_at (i := 3) 21 rfl rfl (by kernel_rfl) (by kernel_rfl) (by kernel_rfl) (fun _ _ _ h => h) (by rfl) (fun w hSw => by (have hSw2 := SGt.facts hSw; clear hSw; go_simp; first | done | exact rfl)) (by assumption) ?_
      simp only [List.setIfInBounds_toArray, List.set_cons_zero, List.set_cons_succ]
      refine take_at (i := 4) 22 rfl rfl (by kernel_rfl) (by kernel_rfl) (by kernel_rfl) (fun _ _ _ h => h) (by rfl) (fun w hSw => by (have hSw2 := SGt.facts hSw; clear hSw; go_simp; first | done | exact rfl)) (by assumption) ?_
      simp only [List.setIfInBounds_toArray, List.set_cons_zero, List.set_cons_succ]
      refine take_at (i := 5) 23 rfl rfl (by kernel_rfl) (by kernel_rfl) (by kernel_rfl) (fun _ _ _ h => h) (by rfl) (fun w hSw => by (have hSw2 := SGt.facts hSw; clear hSw; go_simp; first | done | exact rfl)) (by assumption) ?_
      simp only [List.setIfInBounds_toArray, List.set_cons_zero, List.set_cons_succ]
      refine take_at (i := 6) 24 rfl rfl (by kernel_rfl) (by kernel_rfl) (by kernel_rfl) (fun _ _ _ h => h) (by rfl) (fun w hSw => by (have hSw2 := SGt.facts hSw; clear hSw; go_simp; first | done | exact rfl)) (by assumption) ?_
      simp only [List.setIfInBounds_toArray, List.set_cons_zero, List.set_cons_succ]
      refine take_at (i := 7) 25 rfl rfl (by kernel_rfl) (by kernel_rfl) (by kernel_rfl) (fun _ _ _ h => h) (by rfl) (fun w hSw => by (have hSw2 := SGt.facts hSw; clear hSw; go_simp; first | done | exact rfl)) (by assumption) ?_
      simp only [List.setIfInBounds_toArray, List.set_cons_zero, List.set_cons_succ]
      refine take_at (i := 8) 26 rfl rfl (by kernel_rfl) (by kernel_rfl) (by kernel_rfl) (fun _ _ _ h => h) (by rfl) (fun w hSw => by (have hSw2 := SGt.facts hSw; clear hSw; go_simp; first | done | exact rfl)) (by assumption) ?_
      simp only [List.setIfInBounds_toArray, List.set_cons_zero, List.set_cons_succ]
      refine take_at (i := 9) 27 rfl rfl (by kernel_rfl) (by kernel_rfl) (by kernel_rfl) (fun _ _ _ h => h) (by rfl) (fun w hSw => by (have hSw2 := SGt.facts hSw; clear hSw; go_simp; first | done | exact rfl)) (by assumption) ?_
      simp only [List.setIfInBounds_toArray, List.set_cons_zero, List.set_cons_succ]
      refine take_at (i := 10) 28 rfl rfl (by kernel_rfl) (by kernel_rfl) (by kernel_rfl) (fun _ _ _ h => h) (by rfl) (fun w hSw => by (have hSw2 := SGt.facts hSw; clear hSw; go_simp; first | done | exact rfl)) (by assumption) ?_
      simp only [List.setIfInBounds_toArray, List.set_cons_zero, List.set_cons_succ]
      refine take_at (i := 11) 29 rfl rfl (by kernel_rfl) (by kernel_rfl) (by kernel_rfl) (fun _ _ _ h => h) (by rfl) (fun w hSw => by (have hSw2 := SGt.facts hSw; clear hSw; go_simp; first | done | exact rfl)) (by assumption) ?_
      simp only [List.setIfInBounds_toArray, List.set_cons_zero, List.set_cons_succ]
      have BK : Below w.heap.size w (w.drewN k).drew := (below_drewN (Below.refl _ w) k).drew
      refine one_call (i := 12) (w0 := (w.drewN k).drew) 30 58 #[rv] (by kernel_rfl) rfl rfl (by rfl) (by kernel_rfl) ?_
      refine (cloneB_any w.heap.size rv xs _ (HRow.out.below BK) hxl).mono ?_
      rintro e w2 ⟨hb2, hcl⟩
      have B2 : Below w.heap.size w w2 := BK.trans hb2
      obtain ⟨rv2, rfl, hrow2⟩ : ∃ rv2, e = .returned rv2 ∧ Row w2.heap.size w2 rv2 xs := by
        rcases hcl with ⟨rfl, rfl⟩ | ⟨g, cap, rfl, hcp, _, hg, hcs⟩
        · exact ⟨_, rfl, none, 0, rfl, Nat.le_refl _, fun _ => rfl, fun h => by simp at h⟩
        · exact ⟨_, rfl, some ⟨g, 0, none⟩, cap, rfl, hcp, (fun h => by cases h), fun _ => ⟨g, 0, rfl, hg, hcs⟩⟩
      have hS2 : SGt b n.first n.many rb off v.rc j rv w2 := ⟨(B2.cell (p := ⟨b, 1, none⟩) HW.out.lt).trans c1, (B2.cell (p := ⟨b, 2, none⟩) HW.out.lt).trans c2, (B2.cell (p := ⟨rb, off + j, none⟩) hrl).trans hc⟩
      refine ⟨_, rfl, hS2, fun hHeld2 => ?_⟩
      simp only [List.setIfInBounds_toArray, List.set_cons_zero, List.set_cons_succ]
      refine take_at (i := 13) 4 rfl rfl (by kernel_rfl) (by kernel_rfl) (by kernel_rfl) (fun _ _ _ h => h) (by rfl) (fun w hSw => by (have hSw2 := SGt.facts hSw; clear hSw; go_simp; first | done | exact rfl)) (by assumption) ?_
      simp only [List.setIfInBounds_toArray, List.set_cons_zero, List.set_cons_succ]
      refine take_at (i := 14) 5 rfl rfl (by kernel_rfl) (by kernel_rfl) (by kernel_rfl) (fun _ _ _ h => h) (by rfl) (fun w hSw => by (have hSw2 := SGt.facts hSw; clear hSw; go_simp; first | done | exact rfl)) (by assumption) ?_
      simp only [List.setIfInBounds_toArray, List.set_cons_zero, List.set_cons_succ]
      refine wpAnyH_done (by kernel_rfl) ?_ _
      have HF : Hid (GetSays n L i w (.returned (.tuple #[rv2, .bool true])) w2) := ⟨B2, .inr ⟨xs, rv2, HE.out, HXS.out, rfl, hrow2⟩⟩
      clear hHeld hHeld2 hS2 B2 BK hrow2 hb2
      go_wp2_with fail
      go_ret2
      exact HF.out
end Go.Proofs.YthecngkdmnadoaaGreat

/- alive: what its log is. -/
namespace Go.Proofs.YthecngkdmnadoaaGreat
open Go.RowKit
set_option maxRecDepth 100000

theorem cur_bytes {S : List Sec} (h : S.all (fun s => (s.cur.getD []).all (· < 256)) = true) : ∀ a i u, curOf S a i = some u → ∀ y ∈ u, y < 256 := by
  intro a i u hu y hy
  unfold curOf at hu
  cases hf : findS a i S with
  | none => rw [hf] at hu; cases hu
  | some s =>
    rw [hf] at hu
    have hs : s.cur = some u := hu
    have h1 := List.all_eq_true.1 h s (findS_mem hf)
    rw [hs] at h1
    have h2 := List.all_eq_true.1 h1 y hy
    exact of_decide_eq_true h2
theorem SOwn.recs {w : World} {ra : Option Addr} {n rc : Nat} {s : List Sv} {F : List Nat} {L : List (List Nat)} (h : SOwn 0 w (.slice ra n rc) s) (hl : s.length = L.length) (hr : ∀ (i : Nat) (x : Sv) (xs : List Nat), s[i]? = some x → L[i]? = some xs → RowX F w (encS x) xs) : RecsAt w ra rc L := by
  obtain ⟨_, ⟨e, h0⟩ | ⟨g, cap, cur, e, hb, hh, h3, h4, h5, h6⟩⟩ := id h
  · simp only [Value.slice.injEq] at e
    exact ⟨by omega, fun hp => by omega⟩
  · simp only [Value.slice.injEq] at e
    obtain ⟨rfl, rfl, rfl⟩ := e
    obtain ⟨cur2, _, q2, q3, q4, q5, q6, q7, _⟩ := SOwn.block h
    refine ⟨by omega, fun hp => ⟨g, 0, rfl, (Array.getElem?_eq_some_iff.1 hh).1, fun i xs hi => ?_⟩⟩
    have hil := (List.getElem?_eq_some_iff.1 hi).1
    obtain ⟨x, hx⟩ : ∃ x, s[i]? = some x := ⟨_, List.getElem?_eq_getElem (by omega)⟩
    exact ⟨encS x, by rw [Nat.zero_add]; exact q7 i x hx, (hr i x xs hx hi).1⟩
theorem LogAt.recsAt {N : Nat} {w : World} {b : Nat} {g : LG} {v : WV} {fp : List Nat} {s : List Sv} (h : LogAt N w b g v fp s) : RecsAt w v.ra v.rc g.L := h.recs.recs h.len.1 h.rows
def z0 : LG := (openG (newD 100) 0 5).2
def z1 : LG := (appG z0 [97]).2
def z2 : LG := (appG z1 [98]).2
def z3 : LG := (syncG z2).2
def z4 : LG := (openG z3.d 0 5).2
set_option maxHeartbeats 2000000
theorem z0_is : openG (newD 100) 0 5 = (0, z0) := Prod.ext (by decide +kernel) rfl
theorem z1_is : appG z0 [97] = (0, z1) := Prod.ext (by decide +kernel) rfl
theorem z2_is : appG z1 [98] = (0, z2) := Prod.ext (by decide +kernel) rfl
theorem z3_is : syncG z2 = (0, z3) := Prod.ext (by decide +kernel) rfl
theorem z4_is : openG z3.d 0 5 = (0, z4) := Prod.ext (by decide +kernel) rfl
theorem z0_facts : z0.first = 5 ∧ z0.L.length = 0 ∧ z0.tl.length = 0 ∧ z0.l.length = 0 := by decide +kernel
theorem z1_facts : z1.tl.length < 100 ∧ z1.l.length < 100 := by decide +kernel
theorem z2_facts : z2.tl.length < 100 ∧ z2.l.length < 100 := by decide +kernel
theorem z4_facts : z4.first = 5 ∧ z4.L = [[97], [98]] := by decide +kernel
theorem z0_ok : LOk z0 := ⟨by decide +kernel, by decide +kernel, by decide +kernel, by decide +kernel, by decide +kernel, by decide +kernel, by decide +kernel⟩
theorem z1_ok : LOk z1 := ⟨by decide +kernel, by decide +kernel, by decide +kernel, by decide +kernel, by decide +kernel, by decide +kernel, by decide +kernel⟩
theorem z2_ok : LOk z2 := ⟨by decide +kernel, by decide +kernel, by decide +kernel, by decide +kernel, by decide +kernel, by decide +kernel, by decide +kernel⟩
theorem zn_open (room : Int) (fr : Nat) : (∀ a ∈ areasS (newD room).secs, 0 ≤ a ∧ a < 18446744073709551616) ∧ (nextN (newD room) fr ≤ 1152921504606846976 → ∀ x ∈ numsN (newD room), x ≤ 1152921504606846976) ∧ (numsN (newD room)).length = 0 ∧ (∀ a i u, curOf (newD room).secs a i = some u → ∀ y ∈ u, y < 256) := by
  have hn : numsN (newD room) = [] := by show (numsOf (areasS [])).map Int.toNat = []; decide +kernel
  have ha : areasS (newD room).secs = [] := by show areasS [] = []; decide +kernel
  refine ⟨fun a h => ?_, fun _ x h => ?_, by rw [hn]; rfl, fun a i u hu => by cases hu⟩
  · rw [ha] at h; cases h
  · rw [hn] at h; cases h
theorem z3_open : (∀ a ∈ areasS z3.d.secs, 0 ≤ a ∧ a < 18446744073709551616) ∧ (∀ x ∈ numsN z3.d, x ≤ 1152921504606846976) ∧ (numsN z3.d).length ≤ 16000 ∧ z3.d.secs.all (fun s => (s.cur.getD []).all (· < 256)) = true := by
  refine ⟨by decide +kernel, by decide +kernel, by decide +kernel, by decide +kernel⟩
end Go.Proofs.YthecngkdmnadoaaGreat
