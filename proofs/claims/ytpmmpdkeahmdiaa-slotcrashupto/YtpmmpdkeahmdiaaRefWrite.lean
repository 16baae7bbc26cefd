/- The reference of the disk: Write, where nothing is written. -/
import Derived.Test.YtpmmpdkeahmdiaaRefStrs
import Derived.Test.YtpmmpdkeahmdiaaRefWhole
import Derived.Test.YtpmmpdkeahmdiaaRefOps
namespace Go.Proofs.Ytpmmpdkeahmdiaa
open Go.RowKit
set_option maxRecDepth 100000

def WrSays (P : Nat → Prop) (r : RD) (X : List RX) (a n : Int) (xs : List Nat) (w : World) (e : Ending) (w' : World) : Prop :=
  ∃ r' l' X' c, e = .returned (.tuple #[rdV r' l', .int .i64 c]) ∧ SecRow (fun b => P b ∨ w.heap.size ≤ b) w' l' X' ∧ Below w.heap.size w w' ∧
    ((r.dead = true ∧ r' = r ∧ X' = X ∧ c = 30) ∨ (r.dead = false ∧ formBad n xs ∧ r' = r ∧ X' = X ∧ c = 31) ∨
     (r.dead = false ∧ ¬ formBad n xs ∧ (∀ x ∈ X, ¬ (x.s.area = a ∧ x.s.n = n)) ∧ r.room = 0 ∧ r' = r ∧ X' = X ∧ c = 32) ∨
     (r.dead = false ∧ ¬ formBad n xs ∧ (∀ x ∈ X, ¬ (x.s.area = a ∧ x.s.n = n)) ∧ r.room ≠ 0 ∧ r' = rdStep { r with room := r.room - 1 } ∧ (∃ lv, X' = putX ⟨⟨a, n, [pad xs], false⟩, lv⟩ false X) ∧ c = if rdDies r then 30 else 0) ∨
     (r.dead = false ∧ ¬ formBad n xs ∧ (∃ x ∈ X, x.s.area = a ∧ x.s.n = n ∧ r' = rdStep r ∧ (∃ lv, X' = putX ⟨⟨x.s.area, x.s.n, x.s.vs ++ [pad xs], x.s.sy⟩, lv⟩ false X)) ∧ c = if rdDies r then 30 else 0))
attribute [local go_sem ↓] exec_alloc_D exec_box_D exec_load_D exec_store_D
attribute [local go_sem] rdV_cells rdC_0 rdC_1 rdC_2 rdC_3 rdC_4 rdC_5
def two0 (w : World) (r : RD) (l : Value) : World := (w.alloc (.cells (rdC r l) 27)).alloc (.cells (rdC rd0 (.slice none 0 0)) 27)
theorem two0_at (w : World) (r : RD) (l : Value) : DskAt (two0 w r l) w.heap.size r l ∧ DskAt (two0 w r l) (w.heap.size + 1) rd0 (.slice none 0 0) ∧ Below w.heap.size w (two0 w r l) ∧ (two0 w r l).heap.size = w.heap.size + 2 := by
  refine ⟨(DskAt.new w r l).old _, ?_, ((Below.refl _ w).alloc (Nat.le_refl _) _).alloc (by simp) _, by simp [two0]⟩
  have := DskAt.new (w.alloc (.cells (rdC r l) 27)) rd0 (.slice none 0 0)
  rwa [alloc_size] at this
set_option maxHeartbeats 2000000 in
theorem refWrite_dead (P : Nat → Prop) (r : RD) (l : Value) (X : List RX) (a n : Int) (y : Value) (xs : List Nat) (w : World) (hX : SecRow P w l X) (hd : r.dead = true) :
    Calls Try.prog 47 #[rdV r l, .int .u64 a, .int .i64 n, y] w (WrSays P r X a n xs w) := by
  obtain ⟨ad, cap, rfl, _⟩ := id hX
  obtain ⟨t1, t2, t3, t4⟩ := two0_at w r (.slice ad X.length cap)
  have hld := loadD_at t1
  have hst := storeD_at (r := r) (ad := ad) (n := X.length) (c := cap) t2
  have HE : Hid (WrSays P r X a n xs w (.returned (.tuple #[rdV r (.slice ad X.length cap), .int .i64 30])) (setD (two0 w r (.slice ad X.length cap)) (w.heap.size + 1) r (.slice ad X.length cap))) := by
    have hb := setD_below t3 (b := w.heap.size + 1) (by omega) r (.slice ad X.length cap)
    exact ⟨r, .slice ad X.length cap, X, 30, rfl, (hX.below hb).mono fun b _ h => .inl h, hb, .inl ⟨hd, rfl, rfl, rfl⟩⟩
  have HR : Hid (DskAt (setD (two0 w r (.slice ad X.length cap)) (w.heap.size + 1) r (.slice ad X.length cap)) (w.heap.size + 1) r (.slice ad X.length cap)) := t2.set
  clear hX t1 t2 t3 t4
  obtain ⟨w5, hw5⟩ : ∃ w5, setD (two0 w r (.slice ad X.length cap)) (w.heap.size + 1) r (.slice ad X.length cap) = w5 := ⟨_, rfl⟩
  rw [hw5] at hst HE HR
  clear hw5
  unfold two0 at hld hst
  go_enter Try.func47, Try.ntmps47
  go_wp2
  exact retD2 rfl rfl rfl HR.out rfl HE.out
set_option maxHeartbeats 2000000 in
theorem refWrite_form (P : Nat → Prop) (r : RD) (l : Value) (X : List RX) (a n : Int) (N : Nat) (y : Value) (xs : List Nat) (w : World) (hX : SecRow P w l X) (hr : Row N w y xs) (hd : r.dead = false) (hf : formBad n xs) (hl : xs.length ≤ 9223372036854775807) :
    Calls Try.prog 47 #[rdV r l, .int .u64 a, .int .i64 n, y] w (WrSays P r X a n xs w) := by
  obtain ⟨ad, cap, rfl, _⟩ := id hX
  obtain ⟨t1, t2, t3, t4⟩ := two0_at w r (.slice ad X.length cap)
  have hld := loadD_at t1
  have hst := storeD_at (r := r) (ad := ad) (n := X.length) (c := cap) t2
  have HE : Hid (WrSays P r X a n xs w (.returned (.tuple #[rdV r (.slice ad X.length cap), .int .i64 31])) (setD (two0 w r (.slice ad X.length cap)) (w.heap.size + 1) r (.slice ad X.length cap))) := by
    have hb := setD_below t3 (b := w.heap.size + 1) (by omega) r (.slice ad X.length cap)
    exact ⟨r, .slice ad X.length cap, X, 31, rfl, (hX.below hb).mono fun b _ h => .inl h, hb, .inr (.inl ⟨hd, hf, rfl, rfl, rfl⟩)⟩
  have HR : Hid (DskAt (setD (two0 w r (.slice ad X.length cap)) (w.heap.size + 1) r (.slice ad X.length cap)) (w.heap.size + 1) r (.slice ad X.length cap)) := t2.set
  obtain ⟨ao, yc, rfl, _⟩ := hr.shape
  clear hX t1 t2 t3 t4 hr
  obtain ⟨w5, hw5⟩ : ∃ w5, setD (two0 w r (.slice ad X.length cap)) (w.heap.size + 1) r (.slice ad X.length cap) = w5 := ⟨_, rfl⟩
  rw [hw5] at hst HE HR
  clear hw5
  unfold two0 at hld hst
  unfold formBad at hf
  by_cases h1 : n < 0
  · clear hf
    go_enter Try.func47, Try.ntmps47
    go_wp2
    exact retD2 rfl rfl rfl HR.out rfl HE.out
  · by_cases h2 : 65536 ≤ n
    · clear hf
      go_enter Try.func47, Try.ntmps47
      go_wp2
      exact retD2 rfl rfl rfl HR.out rfl HE.out
    · have h3 : (64 : Int) < (xs.length : Int) := by omega
      clear hf
      go_enter Try.func47, Try.ntmps47
      go_wp2
      exact retD2 rfl rfl rfl HR.out rfl HE.out
end Go.Proofs.Ytpmmpdkeahmdiaa
