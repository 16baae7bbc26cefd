/- Words as runes in memory; least and alike. -/
import Derived.Test.YtjhjejjnkpbphaaDoorFMath
import Derived.Test.YtjhjejjnkpbphaaDoorPRows
import Derived.Test.YtjhjejjnkpbphaaDoorRunes
import Derived.Deep.QuietTactic
import Derived.BigQuiet
import Derived.Deep.Cut
namespace Go.Proofs.YtjhjejjnkpbphaaDoor
open Go.RowKit Nums Fm
set_option maxRecDepth 100000

/-- A row of runes that is read, in a block below E. -/
def RunesAt (E : Nat) (w : World) (v : Value) (xs : List Int) : Prop :=
  ∃ ad cap, v = .slice ad xs.length cap ∧ (0 < xs.length → ∃ g off, ad = some ⟨g, off, none⟩ ∧ g < E ∧ ∀ i x, xs[i]? = some x → w.cell? ⟨g, off + i, none⟩ = some (.int .i32 x))
theorem RunesAt.below {E : Nat} {w w' : World} {v : Value} {xs : List Int} (h : RunesAt E w v xs) (hb : Below E w w') : RunesAt E w' v xs := by
  obtain ⟨ad, cap, rfl, hc⟩ := h
  refine ⟨ad, cap, rfl, fun h0 => ?_⟩
  obtain ⟨g, off, rfl, hg, hx⟩ := hc h0
  exact ⟨g, off, rfl, hg, fun i x hi => (hb.cell (p := ⟨g, off + i, none⟩) hg).trans (hx i x hi)⟩
theorem RunesAt.mono {E E' : Nat} {w : World} {v : Value} {xs : List Int} (h : RunesAt E w v xs) (he : E ≤ E') : RunesAt E' w v xs := by
  obtain ⟨ad, cap, rfl, hc⟩ := h
  refine ⟨ad, cap, rfl, fun h0 => ?_⟩
  obtain ⟨g, off, rfl, hg, hx⟩ := hc h0
  exact ⟨g, off, rfl, by omega, hx⟩
/-- An entry's two cells. -/
structure EntAt (E : Nat) (w : World) (g o : Nat) (v : Value) (e : En) : Prop where
  c0 : w.cell? ⟨g, o, none⟩ = some v
  c1 : w.cell? ⟨g, o + 1, none⟩ = some (.int .i64 e.2)
  rn : RunesAt E w v e.1
/-- A row of entries that is read, all in blocks below E. -/
def ERow (E : Nat) (w : World) (v : Value) (l : List En) : Prop :=
  ∃ ad cap, v = .slice ad l.length cap ∧ l.length ≤ cap ∧ (0 < l.length → ∃ g off, ad = some ⟨g, off, none⟩ ∧ g < E ∧ ∀ i e, l[i]? = some e → ∃ u, EntAt E w g (off + i * 2) u e)
theorem EntAt.below {E : Nat} {w w' : World} {g o : Nat} {v : Value} {e : En} (h : EntAt E w g o v e) (hg : g < E) (hb : Below E w w') : EntAt E w' g o v e :=
  ⟨(hb.cell (p := ⟨g, o, none⟩) hg).trans h.c0, (hb.cell (p := ⟨g, o + 1, none⟩) hg).trans h.c1, h.rn.below hb⟩
theorem ERow.below {E : Nat} {w w' : World} {v : Value} {l : List En} (h : ERow E w v l) (hb : Below E w w') : ERow E w' v l := by
  obtain ⟨ad, cap, rfl, h1, hc⟩ := h
  refine ⟨ad, cap, rfl, h1, fun h0 => ?_⟩
  obtain ⟨g, off, rfl, hg, hx⟩ := hc h0
  refine ⟨g, off, rfl, hg, fun i e hi => ?_⟩
  obtain ⟨u, hu⟩ := hx i e hi
  exact ⟨u, hu.below hg hb⟩
theorem ERow.at {E : Nat} {w : World} {ad : Option Addr} {n cap : Nat} {l : List En} (h : ERow E w (.slice ad n cap) l) (h0 : 0 < n) : ∃ g off, ad = some ⟨g, off, none⟩ ∧ g < E ∧ n ≤ cap ∧ ∀ i e, l[i]? = some e → ∃ u, EntAt E w g (off + i * 2) u e := by
  obtain ⟨ad', cap', e, h1, hc⟩ := h
  simp only [Value.slice.injEq] at e
  obtain ⟨rfl, h2, rfl⟩ := e
  obtain ⟨g, off, h3, h4, h5⟩ := hc (by omega)
  exact ⟨g, off, h3, h4, by omega, h5⟩
theorem ERow.form {E : Nat} {w : World} {v : Value} {l : List En} (h : ERow E w v l) : ∃ ad cap, v = .slice ad l.length cap ∧ l.length ≤ cap := by
  obtain ⟨ad, cap, e, h1, _⟩ := h; exact ⟨ad, cap, e, h1⟩
theorem leastF_snoc {l : List En} {k : Nat} {e : En} (h : l[k]? = some e) (m : Int) : leastF m (l.take (k + 1)) = if e.2 < leastF m (l.take k) then e.2 else leastF m (l.take k) := by
  have key : ∀ (l : List En) (m : Int) (e : En), leastF m (l ++ [e]) = if e.2 < leastF m l then e.2 else leastF m l := by
    intro l
    induction l with
    | nil => intro m e; rfl
    | cons x r ih => intro m e; rw [List.cons_append, leastF, ih, leastF]
  rw [List.take_add_one, h]
  exact key _ _ _

set_option maxHeartbeats 1000000 in
theorem least_any (E : Nat) (w : World) (v : Value) (l : List En) (h : ERow E w v l) (h0 : 0 < l.length) (hE : E ≤ w.heap.size) (hl : l.length ≤ 1048576) :
    Calls Tryd.prog 39 #[v] w fun e w' => e = .returned (.int .i64 (least l)) ∧ Below w.heap.size w w' := by
  obtain ⟨ad, cap, rfl, hcap⟩ := h.form
  have HR : Hid (ERow E w (.slice ad l.length cap) l) := h
  obtain ⟨n, hn⟩ : ∃ n, l.length = n := ⟨_, rfl⟩
  have HN : Hid (l.length = n) := hn
  rw [hn] at HR hl h0 hcap
  have h0z : (0 : Int) < (n : Int) := by omega
  obtain ⟨g, off, rfl, hg, _, hx⟩ := HR.out.at h0
  obtain ⟨e0, he0⟩ : ∃ e0, l[0]? = some e0 := ⟨l[0]'(by have := HN.out; omega), List.getElem?_eq_getElem _⟩
  obtain ⟨u0, hu0⟩ := hx 0 e0 he0
  obtain ⟨a0, a1, _⟩ := hu0
  rw [Nat.zero_mul, Nat.add_zero] at a0 a1
  have HL : Hid (least l = leastF e0.2 l) := by
    show _ = _
    cases l with
    | nil => simp at he0
    | cons x r => simp only [List.getElem?_cons_zero, Option.some.injEq] at he0; subst he0; rfl
  clear h hx he0
  rw [hn]
  clear hn
  go_enter Tryd.func39, Tryd.ntmps39
  go_wp2
  go_loopg [3, 5, 12] n (fun g s3 _ s12 wr => ∃ (k : Nat), s12 = .int .i64 k ∧ k ≤ n ∧ n - k ≤ g ∧ s3 = .int .i64 (leastF e0.2 (l.take k)) ∧ Hid (Below w.heap.size w wr))
  case atStart => exact ⟨0, rfl, Nat.zero_le _, by omega, by simp [leastF], Below.refl _ _⟩
  case round =>
    obtain ⟨k, rfl, hk, hgm, rfl, HB⟩ := hrel
    by_cases hlt : k < n
    · have hltz : (k : Int) < (n : Int) := by omega
      obtain ⟨x, hx⟩ : ∃ x, l[k]? = some x := ⟨l[k]'(by have := HN.out; omega), List.getElem?_eq_getElem _⟩
      have HRw : ERow E wr (.slice (some ⟨g, off, none⟩) n cap) l := HR.out.below (HB.out.mono hE)
      obtain ⟨g', off', e', hg', _, hcell⟩ := HRw.at (by omega)
      simp only [Option.some.injEq, Addr.mk.injEq] at e'
      obtain ⟨rfl, rfl, _⟩ := e'
      obtain ⟨u, hu⟩ := hcell k x hx
      obtain ⟨c0, c1, ⟨ra, rc, rfl, _⟩⟩ := hu
      have HS : Hid (leastF e0.2 (l.take (k + 1)) = if x.2 < leastF e0.2 (l.take k) then x.2 else leastF e0.2 (l.take k)) := leastF_snoc hx _
      have HB2 : Hid (∀ o, Below w.heap.size w (wr.alloc o)) := fun o => HB.out.alloc HB.out.size o
      clear hcell hx HRw
      generalize leastF e0.2 (l.take k) = m at *
      go_wp2
      all_goals
        go_roundg (n - (k + 1))
        case measure => omega
        case rel => exact ⟨k + 1, by go_num, by omega, Nat.le_refl _, by rw [HS.out]; first | rw [if_pos (by omega)] | rw [if_neg (by omega)], HB2.out _⟩
    · have hltz : ¬ (k : Int) < (n : Int) := by omega
      have HE : Hid (leastF e0.2 (l.take k) = leastF e0.2 l) := by show _ = _; rw [List.take_of_length_le (by have := HN.out; omega)]
      go_wp2
      go_ret
      exact ⟨by rw [HE.out, HL.out]; rfl, HB.out⟩

theorem RunesAt.get {E : Nat} {w : World} {ad : Option Addr} {n cap : Nat} {xs : List Int} (h : RunesAt E w (.slice ad n cap) xs) {k : Nat} (hk : k < xs.length) : ∃ g off, ad = some ⟨g, off, none⟩ ∧ n = xs.length ∧ w.cell? ⟨g, off + k, none⟩ = some (.int .i32 ((xs.drop k).headD 0)) := by
  obtain ⟨ad', cap', e, hc⟩ := h
  simp only [Value.slice.injEq] at e
  obtain ⟨rfl, rfl, rfl⟩ := e
  obtain ⟨g, off, rfl, _, hx⟩ := hc (by omega)
  refine ⟨g, off, rfl, rfl, ?_⟩
  have := hx k xs[k] (List.getElem?_eq_getElem hk)
  rw [this, List.headD_eq_head?_getD, List.head?_drop, List.getElem?_eq_getElem hk]
  rfl
theorem lead_step {c : Int} {k j : Nat} {l : List En} {e : En} (h : l[j]? = some e) : lead c (cut k (l.drop j)) = if hd (e.1.drop k, e.2) = c then lead c (cut k (l.drop (j + 1))) + 1 else 0 := by
  obtain ⟨hj, rfl⟩ := List.getElem?_eq_some_iff.1 h
  rw [List.drop_eq_getElem_cons hj, cut_cons, lead]
set_option maxHeartbeats 1000000 in
theorem alike_any (E : Nat) (w : World) (v : Value) (l : List En) (k : Nat) (e0 : En) (he0 : l[0]? = some e0) (h : ERow E w v l) (hl : l.length ≤ 1048576) (hlen : ∀ e ∈ l, k < e.1.length) :
    Calls Tryd.prog 68 #[v, .int .i64 k] w fun e w' => e = .returned (.int .i64 ((1 + lead (hd (e0.1.drop k, e0.2)) (cut k (l.drop 1)) : Nat) : Int)) ∧ ∃ q, w' = w.drewN q := by
  obtain ⟨ad, cap, rfl, hcap⟩ := h.form
  have HR : Hid (ERow E w (.slice ad l.length cap) l) := h
  obtain ⟨n, hn⟩ : ∃ n, l.length = n := ⟨_, rfl⟩
  have HN : Hid (l.length = n) := hn
  have HLEN : Hid (∀ e ∈ l, k < e.1.length) := hlen
  have h0 : 0 < n := by rw [← hn]; exact (List.getElem?_eq_some_iff.1 he0).1
  rw [hn] at HR hl hcap
  have h0z : (0 : Int) < (n : Int) := by omega
  obtain ⟨c, hc⟩ : ∃ c, hd (e0.1.drop k, e0.2) = c := ⟨_, rfl⟩
  obtain ⟨A, hA⟩ : ∃ A, 1 + lead c (cut k (l.drop 1)) = A := ⟨_, rfl⟩
  have HA : Hid (1 + lead c (cut k (l.drop 1)) = A) := hA
  have HC : Hid (hd (e0.1.drop k, e0.2) = c) := hc
  obtain ⟨g, off, rfl, hg, _, hx⟩ := HR.out.at h0
  obtain ⟨u0, hu0⟩ := hx 0 e0 he0
  obtain ⟨a0, _, hr0⟩ := hu0
  obtain ⟨ra0, rc0, rfl, _⟩ := id hr0
  have hk0 : k < e0.1.length := hlen e0 (List.mem_of_getElem? he0)
  obtain ⟨g0, o0, rfl, _, d0⟩ := hr0.get hk0
  rw [Nat.zero_mul, Nat.add_zero] at a0
  obtain ⟨n0, hn0⟩ : ∃ n0, e0.1.length = n0 := ⟨_, rfl⟩
  rw [hn0] at a0 hk0
  have hk0z : (k : Int) < (n0 : Int) := by omega
  have d0' : w.cell? ⟨g0, o0 + k, none⟩ = some (.int .i32 c) := by rw [d0, ← hc]; rfl
  rw [hn, hc, hA]
  clear h he0 hn hA hc d0 hr0 hn0 hlen
  go_enter Tryd.func68, Tryd.ntmps68
  go_wp2
  go_loopg [5] n (fun gm s5 wr => ∃ (j : Nat), s5 = .int .i64 j ∧ j ≤ n ∧ 1 ≤ j ∧ n - j ≤ gm ∧ Hid (j + lead c (cut k (l.drop j)) = A) ∧ Hid (∃ q, wr = w.drewN q))
  case atStart => exact ⟨1, rfl, by omega, by omega, by omega, HA, 0, rfl⟩
  case round =>
    obtain ⟨j, rfl, hj, hj1, hgm, HJ, HW⟩ := hrel
    obtain ⟨q, rfl⟩ := HW.out

    by_cases hlt : j < n
    · have hltz : (j : Int) < (n : Int) := by omega
      obtain ⟨x, hxj⟩ : ∃ x, l[j]? = some x := ⟨l[j]'(by have := HN.out; omega), List.getElem?_eq_getElem _⟩
      obtain ⟨u, hu⟩ := hx j x hxj
      obtain ⟨c0, _, hr⟩ := hu
      obtain ⟨ra, rc, rfl, _⟩ := id hr
      have hkx : k < x.1.length := HLEN.out x (List.mem_of_getElem? hxj)
      obtain ⟨g1, o1, rfl, _, d1⟩ := hr.get hkx
      obtain ⟨n1, hn1⟩ : ∃ n1, x.1.length = n1 := ⟨_, rfl⟩
      rw [hn1] at c0 hkx
      have hkxz : (k : Int) < (n1 : Int) := by omega
      have HST := lead_step (c := c) (k := k) hxj
      obtain ⟨cx, hcx⟩ : ∃ cx, hd (x.1.drop k, x.2) = cx := ⟨_, rfl⟩
      have d1' : w.cell? ⟨g1, o1 + k, none⟩ = some (.int .i32 cx) := by rw [d1, ← hcx]; rfl
      rw [hcx] at HST
      clear hxj hr d1 hn1 hcx
      by_cases hcc : cx = c
      · have hcb : (cx == c) = true := beq_iff_eq.2 hcc
        have HJ2 : Hid (j + 1 + lead c (cut k (l.drop (j + 1))) = A) := by show _ = _; have := HJ.out; rw [HST, if_pos hcc] at this; omega
        clear HST hcc hx
        go_upto_region 2 with fail
        go_quiet (fail)
        go_wp2
        go_roundg (n - (j + 1))
        case measure => omega
        case rel => exact ⟨j + 1, by go_num, by omega, by omega, Nat.le_refl _, HJ2, ⟨_, rfl⟩⟩
      · have hcb : (cx == c) = false := beq_eq_false_iff_ne.2 hcc
        have HJ2 : Hid (j = A) := by show _ = _; have := HJ.out; rw [HST, if_neg hcc] at this; omega
        clear HST hcc hx
        go_upto_region 2 with fail
        go_quiet (fail)
        go_wp2
        go_ret
        exact ⟨by rw [HJ2.out]; rfl, _, rfl⟩
    · have hltz : ¬ (j : Int) < (n : Int) := by omega
      have HJ2 : Hid (j = A) := by
        show _ = _
        have := HJ.out
        rw [List.drop_eq_nil_of_le (by have := HN.out; omega)] at this
        simpa [cut, lead] using this
      clear hx
      go_upto_region 2 with fail
      go_quiet (fail)
      go_wp2
      go_ret
      exact ⟨by rw [HJ2.out]; rfl, _, rfl⟩
end Go.Proofs.YtjhjejjnkpbphaaDoor
