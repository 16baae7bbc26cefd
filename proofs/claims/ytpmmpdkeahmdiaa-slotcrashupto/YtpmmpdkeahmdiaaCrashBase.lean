/- Crash: what its loops keep. -/
import Derived.Test.YtpmmpdkeahmdiaaCrashMath
import Derived.Test.YtpmmpdkeahmdiaaCopyL
namespace Go.Proofs.Ytpmmpdkeahmdiaa
open Go.RowKit
set_option maxRecDepth 100000

theorem sorted_leI (xs : List Int) : (SrtI.sorted xs).Pairwise (· ≤ ·) := sorted_le xs
theorem mem_sortedI (xs : List Int) (x : Int) : x ∈ SrtI.sorted xs ↔ x ∈ xs := mem_sorted xs x
theorem strict_sortedI {xs : List Int} (h : xs.Nodup) : (SrtI.sorted xs).Pairwise (· < ·) := strict_sortedU h
/-- Whole numbers that are read. -/
def IntsAt (w : World) (v : Value) (ps : List Int) : Prop :=
  ∃ ad cap, v = .slice ad ps.length cap ∧ ps.length ≤ cap ∧ ps.length ≤ 9223372036854775807 ∧ (0 < ps.length → ∃ b off, ad = some ⟨b, off, none⟩ ∧ b < w.heap.size ∧ ∀ (j : Nat) x, ps[j]? = some x → w.cell? ⟨b, off + j, none⟩ = some (.int .i64 x)) ∧ ∀ x ∈ ps, -9223372036854775808 ≤ x ∧ x ≤ 9223372036854775807
theorem IntsAt.below {w w' : World} {v : Value} {ps : List Int} (h : IntsAt w v ps) (hb : Below w.heap.size w w') : IntsAt w' v ps := by
  obtain ⟨ad, cap, rfl, h1, h2, hc, h3⟩ := h
  refine ⟨ad, cap, rfl, h1, h2, fun h0 => ?_, h3⟩
  obtain ⟨b, off, rfl, hl, hx⟩ := hc h0
  exact ⟨b, off, rfl, Nat.lt_of_lt_of_le hl hb.size, fun j x hj => (hb.cell (p := ⟨b, off + j, none⟩) hl).trans (hx j x hj)⟩
theorem IntsAt.tail {w : World} {b off cap : Nat} {x : Int} {r : List Int} (h : IntsAt w (.slice (some ⟨b, off, none⟩) (x :: r).length cap) (x :: r)) : IntsAt w (.slice (if cap = 1 then some ⟨b, off, none⟩ else some ⟨b, off + 1, none⟩) r.length (cap - 1)) r := by
  obtain ⟨ad, cap', e, h1, h2, hc, h3⟩ := h
  simp only [Value.slice.injEq] at e
  obtain ⟨rfl, _, rfl⟩ := e
  simp only [List.length_cons] at h1 h2 hc
  refine ⟨_, _, rfl, by omega, by omega, fun h0 => ?_, fun y hy => h3 y (.tail _ hy)⟩
  rw [if_neg (by omega)]
  obtain ⟨b', off', e, hl, hx⟩ := hc (by omega)
  simp only [Option.some.injEq, Addr.mk.injEq, and_true] at e
  obtain ⟨rfl, rfl⟩ := e
  exact ⟨b, off + 1, rfl, hl, fun j y hj => by
    have := hx (j + 1) y (by simpa using hj)
    rw [← Nat.add_assoc] at this
    rw [Nat.add_assoc, Nat.add_comm 1 j, ← Nat.add_assoc]
    exact this⟩
abbrev ML := List (Int × Nat × List (Int × List Nat))
structure CrashR (w : World) (q mb fbq : Nat) (room : Int) (wr : World) (M : ML) (f : Int → Int → Option (List Nat)) : Prop where
  two : Two verV wr mb M
  ne : ∀ p ∈ M, p.2.2 ≠ [] ∧ ∀ s ∈ p.2.2, s.2.length = 64
  get : ∀ a n, twoGet M a n = f a n
  newm : w.heap.size ≤ mb
  new : ∀ p ∈ M, w.heap.size ≤ p.2.1 ∧ p.2.1 ≠ q ∧ p.2.1 ≠ fbq
  qb : wr.heap[q]? = some (dC room 0 0 false false 0 mb fbq)
  fb : MapAt .u64 inV wr fbq ([] : List (Int × Nat × List (Int × FS)))
  ap : q ≠ mb ∧ fbq ≠ mb ∧ q ≠ fbq
  qge : w.heap.size ≤ q ∧ w.heap.size ≤ fbq
  below : Below w.heap.size w wr
theorem CrashR.then {w : World} {q mb fbq : Nat} {room : Int} {wr wr' : World} {M : ML} {f : Int → Int → Option (List Nat)} (h : CrashR w q mb fbq room wr M f) (hb : Below wr.heap.size wr wr') : CrashR w q mb fbq room wr' M f :=
  ⟨⟨h.two.1.same (hb.block _ h.two.1.lt), fun p hp => (h.two.2.1 p hp).same (hb.block _ (h.two.2.1 p hp).lt), h.two.2.2⟩, h.ne, h.get, h.newm, h.new, (hb.block q (Array.getElem?_eq_some_iff.1 h.qb).1).trans h.qb, h.fb.same (hb.block _ h.fb.lt), h.ap, h.qge, h.below.trans (hb.mono h.below.size)⟩
theorem CrashR.ext {w : World} {q mb fbq : Nat} {room : Int} {wr : World} {M : ML} {f g : Int → Int → Option (List Nat)} (h : CrashR w q mb fbq room wr M f) (e : ∀ a n, f a n = g a n) : CrashR w q mb fbq room wr M g :=
  { h with get := fun a n => (h.get a n).trans (e a n) }
theorem CrashR.put {w : World} {q mb fbq : Nat} {room : Int} {wr wr' : World} {M : ML} {f g : Int → Int → Option (List Nat)} {a n : Int} {v : List Nat} (h : CrashR w q mb fbq room wr M f) (hv : v.length = 64) (hp : PutPost verV a n v mb M wr wr') (e : ∀ a' n', g a' n' = if a' = a ∧ n' = n then some v else f a' n') :
    ∃ M', CrashR w q mb fbq room wr' M' g ∧ (∀ p ∈ M', (∃ p0 ∈ M, p0.2.1 = p.2.1) ∨ wr.heap.size ≤ p.2.1) ∧ (∀ k, k < wr.heap.size → k ≠ mb → (∀ p ∈ M, p.2.1 ≠ k) → wr'.heap[k]? = wr.heap[k]?) ∧ wr.heap.size ≤ wr'.heap.size := by
  obtain ⟨nb, ht, hnb, hnb', ho1, ho2, ho3, hs, hfar⟩ := hp
  have hwr := h.below.size
  have hql := (Array.getElem?_eq_some_iff.1 h.qb).1
  have hfl := h.fb.lt
  have hin : ∀ x, mget a M = some x → (a, x) ∈ M := fun x hx => mem_keys_of_mget hx
  refine ⟨putM a n v nb M, ⟨ht, fun p hp => ?_, fun a' n' => ?_, h.newm, fun p hp => ?_, ?_, ?_, h.ap, h.qge, ?_⟩, fun p hp => ?_, fun k hk h1 h2 => hfar k hk h1 fun x hx e2 => h2 _ (hin x hx) e2.symm, hs⟩
  · unfold putM at hp
    rcases mem_mput_ne h.two.1.nodup hp with e1 | ⟨hp, _⟩
    · subst e1
      cases hm : mget a M with
      | none => exact ⟨by simp, fun s hs => by simp at hs; rw [hs]; exact hv⟩
      | some x =>
        obtain ⟨h1, h2⟩ := h.ne _ (hin x hm)
        refine ⟨fun e2 => ?_, fun s hs => ?_⟩
        · have := (mput_perm n v x.2).length_eq
          simp only at e2
          rw [e2] at this
          simp at this
        · rcases mem_mput_ne (h.two.2.1 _ (hin x hm)).nodup hs with e3 | ⟨hs, _⟩
          · rw [e3]; exact hv
          · exact h2 s hs
    · exact h.ne p hp
  · rw [twoGet_put, e, h.get]
  · unfold putM at hp
    rcases mem_mput_ne h.two.1.nodup hp with e1 | ⟨hp, _⟩
    · subst e1
      cases hm : mget a M with
      | none =>
        have := hnb hm
        exact ⟨by show w.heap.size ≤ nb; omega, by show nb ≠ q; omega, by show nb ≠ fbq; omega⟩
      | some x =>
        have := h.new _ (hin x hm)
        simpa only using this
    · exact h.new p hp
  · rw [hfar q hql h.ap.1 fun x hx e2 => (h.new _ (hin x hx)).2.1 e2.symm]
    exact h.qb
  · exact h.fb.same (hfar fbq hfl h.ap.2.1 fun x hx e2 => (h.new _ (hin x hx)).2.2 e2.symm)
  · refine ⟨ho1.trans h.below.os, ho2.trans h.below.tape, ho3.trans h.below.output, by omega, fun b hb => ?_⟩
    rw [hfar b (by omega) (by have := h.newm; omega) fun x hx e2 => by have := (h.new _ (hin x hx)).1; simp only at this; omega]
    exact h.below.block b hb
  · unfold putM at hp
    rcases mem_mput_ne h.two.1.nodup hp with e1 | ⟨hp, _⟩
    · subst e1
      cases hm : mget a M with
      | none => exact .inr (hnb hm)
      | some x => exact .inl ⟨_, hin x hm, rfl⟩
    · exact .inl ⟨p, hp, rfl⟩
/-- Blocks that the loops only read. -/
def Prot (G : List Nat) (w4 wr : World) (mb : Nat) (M : ML) : Prop := w4.heap.size ≤ wr.heap.size ∧ ∀ g ∈ G, g < w4.heap.size ∧ wr.heap[g]? = w4.heap[g]? ∧ g ≠ mb ∧ ∀ p ∈ M, p.2.1 ≠ g
theorem Prot.then {G : List Nat} {w4 wr wr' : World} {mb : Nat} {M : ML} (h : Prot G w4 wr mb M) (hb : Below wr.heap.size wr wr') : Prot G w4 wr' mb M :=
  ⟨Nat.le_trans h.1 hb.size, fun g hg => ⟨(h.2 g hg).1, (hb.block g (Nat.lt_of_lt_of_le (h.2 g hg).1 h.1)).trans (h.2 g hg).2.1, (h.2 g hg).2.2⟩⟩
theorem Prot.put {G : List Nat} {w4 wr wr' : World} {mb : Nat} {M M' : ML} (h : Prot G w4 wr mb M) (h1 : ∀ p ∈ M', (∃ p0 ∈ M, p0.2.1 = p.2.1) ∨ wr.heap.size ≤ p.2.1) (h2 : ∀ k, k < wr.heap.size → k ≠ mb → (∀ p ∈ M, p.2.1 ≠ k) → wr'.heap[k]? = wr.heap[k]?) (h3 : wr.heap.size ≤ wr'.heap.size) : Prot G w4 wr' mb M' := by
  refine ⟨Nat.le_trans h.1 h3, fun g hg => ?_⟩
  obtain ⟨g1, g2, g3, g4⟩ := h.2 g hg
  refine ⟨g1, (h2 g (Nat.lt_of_lt_of_le g1 h.1) g3 g4).trans g2, g3, fun p hp => ?_⟩
  rcases h1 p hp with ⟨p0, hp0, e⟩ | hp
  · rw [← e]; exact g4 p0 hp0
  · have := h.1; omega
/-- A row of numbers that a call has made. -/
def RowAt (q : IntKind) (B : Nat) (w : World) (v : Value) (xs : List Int) : Prop := (v = .slice none 0 0 ∧ xs = []) ∨ ∃ g cap, v = .slice (some ⟨g, 0, none⟩) xs.length cap ∧ B ≤ g ∧ g < w.heap.size ∧ ∀ (j : Nat) x, xs[j]? = some x → w.cell? ⟨g, j, none⟩ = some (.int q x)
theorem RowAt.of_own {q : IntKind} {B : Nat} {w : World} {v : Value} {xs : List Int} {t : TypeId} {k : Nat} (h : w.ownsRow B t 1 v k (xs.map (Value.int q))) : RowAt q B w v xs := by
  obtain ⟨h1, h2⟩ := h
  have hk : xs.length = k := by simpa using h1
  subst hk
  rcases h2 with ⟨rfl, h0⟩ | ⟨g, cap, cur, rfl, hb, hh, h3, h4, h5, h6⟩
  · exact .inl ⟨rfl, List.eq_nil_of_length_eq_zero h0⟩
  · refine .inr ⟨g, cap, rfl, hb, (Array.getElem?_eq_some_iff.1 hh).1, fun j x hj => ?_⟩
    have e : (xs.map (Value.int q))[j]? = some (.int q x) := by rw [List.getElem?_map, hj]; rfl
    rw [← h6, Nat.mul_one, List.getElem?_take] at e
    split at e
    · simpa [World.cell?, hh] using e
    · cases e
theorem RowAt.shape {q : IntKind} {B : Nat} {w : World} {v : Value} {xs : List Int} (h : RowAt q B w v xs) : ∃ ad cap, v = .slice ad xs.length cap := by
  rcases h with ⟨rfl, rfl⟩ | ⟨g, cap, rfl, _⟩
  · exact ⟨none, 0, rfl⟩
  · exact ⟨_, cap, rfl⟩
/-- Which block a row lies in, to be kept. -/
theorem RowAt.prot {q : IntKind} {B : Nat} {w : World} {v : Value} {xs : List Int} (h : RowAt q B w v xs) : ∃ G : List Nat, (∀ g ∈ G, B ≤ g ∧ g < w.heap.size) ∧ ∀ (i : Nat) x, xs[i]? = some x → ∃ g cap, v = .slice (some ⟨g, 0, none⟩) xs.length cap ∧ g ∈ G ∧ w.cell? ⟨g, i, none⟩ = some (.int q x) := by
  rcases h with ⟨rfl, rfl⟩ | ⟨g, cap, rfl, h1, h2, h3⟩
  · exact ⟨[], fun g hg => (by cases hg), fun i x hx => by simp at hx⟩
  · exact ⟨[g], fun g' hg => by rw [List.mem_singleton.1 hg]; exact ⟨h1, h2⟩, fun i x hx => ⟨g, cap, rfl, .head _, h3 i x hx⟩⟩
theorem Prot.start {G : List Nat} {w0 w4 : World} {mb : Nat} {M : ML} (ht : Two verV w0 mb M) (hG : ∀ g ∈ G, w0.heap.size ≤ g ∧ g < w4.heap.size) : Prot G w4 w4 mb M :=
  ⟨Nat.le_refl _, fun g hg => ⟨(hG g hg).2, rfl, by have := ht.1.lt; have := (hG g hg).1; omega, fun p hp => by have := (ht.2.1 p hp).lt; have := (hG g hg).1; omega⟩⟩
theorem Prot.cell {G : List Nat} {w4 wr : World} {mb : Nat} {M : ML} (h : Prot G w4 wr mb M) {g o : Nat} {v : Value} (hg : g ∈ G) (hc : w4.cell? ⟨g, o, none⟩ = some v) : wr.cell? ⟨g, o, none⟩ = some v := (World.cell?_of_block (a := ⟨g, o, none⟩) (h.2 g hg).2.1).trans hc
def innerK (sh : Sh) (a : Int) : List (Int × Int) := (SrtI.sorted (keys (inF sh a))).map fun n => (a, n)
def stK (sh : Sh) (ps : List Int) (K : List (Int × Int)) : (Int → Int → Option (List Nat)) × List Int := K.foldl (cstep (fget sh)) (lget sh, ps)
theorem stK_snoc (sh : Sh) (ps : List Int) (K : List (Int × Int)) (k : Int × Int) : stK sh ps (K ++ [k]) = cstep (fget sh) (stK sh ps K) k := by rw [stK, List.foldl_append]; rfl
theorem tmod_nat (p L : Nat) : Int.tmod (p : Int) ((L : Int) + 1) = ((p % (L + 1) : Nat) : Int) := by
  have : ((L : Int) + 1) = ((L + 1 : Nat) : Int) := by omega
  rw [this, Int.tmod_eq_emod_of_nonneg (by omega)]
  rfl
theorem riseF' {w : World} {sh : Sh} (h : Held w sh) (hl : sh.F.length < 1099511627776) :
    Calls Try.prog 37 #[.map (some sh.fb)] w fun e w' => ∃ v, e = .returned v ∧ RowAt .u64 w.heap.size w' v (SrtU.sorted (keys sh.F)) ∧ Below w.heap.size w w' := by
  refine (IterF.rising_any (f := inV) (m := sh.F) (bo := some sh.fb) w h.hf.nodup hl (fun W hW => (held_below h hW).hf.range Try.underlying76)).mono ?_
  rintro e w' ⟨v, rfl, h1, h2, h3⟩
  exact ⟨v, rfl, RowAt.of_own h1, h3⟩
theorem atA_bo {β : Type} (a : Int) (M : List (Int × Nat × β)) : atA a M = .map (boOf a M) := by
  unfold atA boOf
  cases mget a M <;> rfl
theorem riseS {w : World} {sh : Sh} (h : Held w sh) (a : Int) (hl : (inF sh a).length < 1099511627776) :
    Calls Try.prog 38 #[atA a sh.F] w fun e w' => ∃ v, e = .returned v ∧ RowAt .i64 w.heap.size w' v (SrtI.sorted (keys (inF sh a))) ∧ Below w.heap.size w w' := by
  rw [atA_bo]
  refine (IterS.rising_any (f := fsV) (m := inF sh a) (bo := boOf a sh.F) w (inF_nodup h a) hl (fun W hW => by have := range_F (held_below h hW) a; rwa [atA_bo] at this)).mono ?_
  rintro e w' ⟨v, rfl, h1, h2, h3⟩
  exact ⟨v, rfl, RowAt.of_own h1, h3⟩
end Go.Proofs.Ytpmmpdkeahmdiaa
