/- A table of sessions in memory; Len, has, row. -/
import Derived.Test.YtoiikmfdoadkpaaSeStruct
namespace Go.Proofs.Ytoiikmfdoadkpaa
open Go.RowKit Go.Lib
set_option maxRecDepth 100000
namespace Se
theorem rtyR : RTy 43 39 4 32 := ⟨by kernel_rfl, ⟨.agg #[.int .u64 0, .int .i64 0, .int .u64 0, .int .i64 0], by kernel_rfl, rfl⟩, by decide, by decide⟩
theorem cellsR_ok (m : Rw) : Cells 4 (cellsR m) := ⟨rfl, by intro u hu; simp [cellsR] at hu; rcases hu with rfl | rfl | rfl | rfl <;> rfl⟩
/-- The row at a place. -/
def el (l : List Rw) (i : Nat) : Rw := l.getD i (0, 0, 0, 0)
theorem el_get {l : List Rw} {i : Nat} (h : i < l.length) : l[i]? = some (el l i) := by unfold el; rw [List.getD_eq_getElem?_getD, List.getElem?_eq_getElem h]; rfl
/-- A table: its block p, the rows' slice v with the rows l; all of it lies from B on. -/
structure TAt (B : Nat) (w : World) (p : Nat) (v : Value) (l : List Rw) : Prop where
  low : B ≤ p
  lt : p < w.heap.size
  c0 : w.cell? ⟨p, 0, none⟩ = some v
  f0 : w.frozen? ⟨p, 0, none⟩ = false
  row : GOwn 43 4 B w v (l.map cellsR)
  ap : v.ownBlock ≠ some p
/-- What a table's calls may change. -/
def TF (p : Nat) (v : Value) (k : Nat) : Prop := k = p ∨ v.ownBlock = some k
theorem TAt.form {B : Nat} {w : World} {p : Nat} {v : Value} {l : List Rw} (K : TAt B w p v l) : ∃ ad cap, v = .slice ad l.length cap ∧ l.length ≤ cap := by
  obtain ⟨ad, cap, e, h⟩ := K.row.shape
  rw [List.length_map] at e h
  exact ⟨ad, cap, e, h⟩
theorem TAt.upd {B : Nat} {w w' : World} {p : Nat} {v : Value} {l : List Rw} {F : Nat → Prop} (K : TAt B w p v l) (u : Upd F w w') (hF : ∀ k, TF p v k → ¬ F k) : TAt B w' p v l := by
  have hp := u.block p K.lt (hF p (.inl rfl))
  exact ⟨K.low, Nat.lt_of_lt_of_le K.lt u.size, (World.cell?_of_block (w := w) hp).trans K.c0, (World.frozen?_of_block (w := w) hp).trans K.f0, GOwn.upd K.row u (fun g hg => hF g (.inr hg)), K.ap⟩
theorem TAt.below {B : Nat} {w w' : World} {p : Nat} {v : Value} {l : List Rw} (K : TAt B w p v l) (hb : Below w.heap.size w w') : TAt B w' p v l :=
  K.upd (F := fun _ => False) (upd_of_below hb) (fun _ _ h => h)
theorem TAt.mono {B B' : Nat} {w : World} {p : Nat} {v : Value} {l : List Rw} (K : TAt B w p v l) (h : B' ≤ B) : TAt B' w p v l :=
  ⟨Nat.le_trans h K.low, K.lt, K.c0, K.f0, K.row.mono h, K.ap⟩
theorem TF.low {B : Nat} {w : World} {p : Nat} {v : Value} {l : List Rw} (K : TAt B w p v l) {k : Nat} (hk : TF p v k) : B ≤ k := by
  rcases hk with rfl | hk
  · exact K.low
  · exact (K.row.block hk).1
/-- Its blocks are there. -/
theorem TF.here {B : Nat} {w : World} {p : Nat} {v : Value} {l : List Rw} (K : TAt B w p v l) {k : Nat} (hk : TF p v k) : k < w.heap.size := by
  rcases hk with rfl | hk
  · exact K.lt
  · exact K.row.lt hk
/-- What a table says of one of its rows. -/
theorem TAt.rw {B : Nat} {w : World} {p : Nat} {v : Value} {l : List Rw} (K : TAt B w p v l) (h0 : 0 < l.length) : ∃ g cap, v = .slice (some ⟨g, 0, none⟩) l.length cap ∧ g < w.heap.size ∧ B ≤ g ∧ g ≠ p ∧ l.length ≤ cap ∧ ∀ i, i < l.length → w.cell? ⟨g, i * 4, none⟩ = some (.int .u64 (el l i).1) ∧ w.cell? ⟨g, i * 4 + 1, none⟩ = some (.int .i64 (el l i).2.1) ∧ w.cell? ⟨g, i * 4 + 2, none⟩ = some (.int .u64 (el l i).2.2.1) ∧ w.cell? ⟨g, i * 4 + 3, none⟩ = some (.int .i64 (el l i).2.2.2) ∧ ∀ j, w.frozen? ⟨g, j, none⟩ = false := by
  obtain ⟨g, cap, hv, h1, h2, h3, h4⟩ := K.row.cell (by rw [List.length_map]; exact h0)
  rw [List.length_map] at hv h3
  refine ⟨g, cap, hv, h1, h2, fun e => K.ap (by rw [hv, e]; rfl), h3, fun i hi => ?_⟩
  have e : (l.map cellsR)[i]? = some (cellsR (el l i)) := by rw [List.getElem?_map, el_get hi]; rfl
  have hf : ∀ j, w.frozen? ⟨g, j, none⟩ = false := fun j => by
    have := K.row.2
    rw [hv, List.length_map] at this
    exact this.frozenAt j
  exact ⟨h4 i 0 _ _ e rfl, h4 i 1 _ _ e rfl, h4 i 2 _ _ e rfl, h4 i 3 _ _ e rfl, hf⟩
theorem map_set (h : List Rw) (i : Nat) (x : Rw) : (h.set i x).map cellsR = (h.map cellsR).set i (cellsR x) := List.map_set ..
theorem Len_any (B : Nat) (w : World) (p : Nat) (v : Value) (l : List Rw) (K : TAt B w p v l) : Calls Try.prog 15 #[.pointer (some ⟨p, 0, none⟩)] w fun e w' => e = .returned (.int .i64 l.length) ∧ w' = w := by
  obtain ⟨ad, cap, rfl, _⟩ := K.form
  have c0 := K.c0
  generalize l.length = n at *
  clear K
  go_enter Try.func15, Try.ntmps15
  go_wp2
  go_ret
  exact ⟨rfl, rfl⟩
/-- Is there such a session? -/
def hasB (l : List Rw) (id : Int) : Bool := decide (1 ≤ id ∧ id ≤ l.length)
theorem has_any (B : Nat) (w : World) (p : Nat) (v : Value) (l : List Rw) (id : Int) (K : TAt B w p v l) (hl : l.length ≤ 1099511627776) : Calls Try.prog 26 #[.pointer (some ⟨p, 0, none⟩), .int .u64 id] w fun e w' => e = .returned (.bool (hasB l id)) ∧ w' = w := by
  have HL := Len_any B w p v l K
  have hw : IntKind.u64.wrap (l.length : Int) = (l.length : Int) := by rw [IntKind.wrap_u64]; omega
  unfold hasB
  generalize l.length = n at *
  clear K
  by_cases h1 : 1 ≤ id
  · rw [show decide (1 ≤ id ∧ id ≤ n) = decide (id ≤ (n : Int)) by simp [h1]]
    go_enter Try.func26, Try.ntmps26
    go_wp2_with (go_at_call 15; refine HL.mono ?_; rintro e w' ⟨rfl, rfl⟩)
    go_ret
    exact ⟨rfl, rfl⟩
  · rw [decide_eq_false (fun h => h1 h.1 : ¬ (1 ≤ id ∧ id ≤ n))]
    go_enter Try.func26, Try.ntmps26
    go_wp2
    go_ret
    exact ⟨rfl, rfl⟩
theorem row_any (B : Nat) (w : World) (p : Nat) (v : Value) (l : List Rw) (i g cap : Nat) (hv : v = .slice (some ⟨g, 0, none⟩) l.length cap) (K : TAt B w p v l) (hi : i < l.length) (hl : l.length ≤ 1099511627776) : Calls Try.prog 27 #[.pointer (some ⟨p, 0, none⟩), .int .u64 ((i : Int) + 1)] w fun e w' => e = .returned (.pointer (some ⟨g, i * 4, none⟩)) ∧ w' = w := by
  subst hv
  have c0 := K.c0
  have hw : IntKind.u64.wrap ((i : Int) + 1 - 1) = (i : Int) := by rw [IntKind.wrap_u64]; omega
  have hiz : (i : Int) < (l.length : Int) := by omega
  generalize l.length = n at *
  clear K
  go_enter Try.func27, Try.ntmps27
  go_wp2
  go_ret
  exact ⟨rfl, rfl⟩
end Se
end Go.Proofs.Ytoiikmfdoadkpaa
