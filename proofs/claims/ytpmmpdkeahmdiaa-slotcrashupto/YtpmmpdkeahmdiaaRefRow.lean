/- The reference's sectors in memory. -/
import Derived.Test.YtpmmpdkeahmdiaaRefSecs
namespace Go.Proofs.Ytpmmpdkeahmdiaa
open Go.RowKit
set_option maxRecDepth 100000

/-- Strings that lie in memory, in a block of which P is said. -/
def StrsAt (P : Nat → Prop) (w : World) (v : Value) (vs : List (List Nat)) : Prop :=
  ∃ h c, v = .slice (some ⟨h, 0, none⟩) vs.length c ∧ P h ∧ h < w.heap.size ∧ ∀ j u, vs[j]? = some u → w.cell? ⟨h, j, none⟩ = some (.string (strB u))
theorem StrsAt.same {P : Nat → Prop} {w w' : World} {v : Value} {vs : List (List Nat)} (h : StrsAt P w v vs) (hs : w.heap.size ≤ w'.heap.size) (hb : ∀ b, P b → b < w.heap.size → w'.heap[b]? = w.heap[b]?) : StrsAt P w' v vs := by
  obtain ⟨g, c, rfl, hP, hg, hc⟩ := h
  exact ⟨g, c, rfl, hP, Nat.lt_of_lt_of_le hg hs, fun j u hj => (World.cell?_of_block (a := ⟨g, j, none⟩) (hb g hP hg)).trans (hc j u hj)⟩
theorem StrsAt.below {P : Nat → Prop} {w w' : World} {v : Value} {vs : List (List Nat)} (h : StrsAt P w v vs) (hb : Below w.heap.size w w') : StrsAt P w' v vs := h.same hb.size fun b _ hl => hb.block b hl
theorem StrsAt.mono {P Q : Nat → Prop} {w : World} {v : Value} {vs : List (List Nat)} (h : StrsAt P w v vs) (hPQ : ∀ b, b < w.heap.size → P b → Q b) : StrsAt Q w v vs := by
  obtain ⟨g, c, rfl, hP, hg, hc⟩ := h
  exact ⟨g, c, rfl, hPQ g hg hP, hg, hc⟩
/-- A sector, and the slice of its versions. -/
structure RX where
  s : RS
  lv : Value
def RX.cells (x : RX) : List Value := [.int .u64 x.s.area, .int .i64 x.s.n, x.lv, .bool x.s.sy]
def RX.ok (P : Nat → Prop) (w : World) (x : RX) : Prop := StrsAt P w x.lv x.s.vs ∧ x.s.vs ≠ [] ∧ x.s.vs.length ≤ 1099511627778
def RX.val (x : RX) : Value := .agg #[.int .u64 x.s.area, .int .i64 x.s.n, x.lv, .bool x.s.sy]
theorem RX.ok.below {P : Nat → Prop} {w w' : World} {x : RX} (h : x.ok P w) (hb : Below w.heap.size w w') : x.ok P w' := ⟨h.1.below hb, h.2⟩
theorem RX.ok.mono {P Q : Nat → Prop} {w : World} {x : RX} (h : x.ok P w) (hPQ : ∀ b, b < w.heap.size → P b → Q b) : x.ok Q w := ⟨h.1.mono hPQ, h.2⟩
theorem RX.ok.same {P : Nat → Prop} {w w' : World} {x : RX} (h : x.ok P w) (hs : w.heap.size ≤ w'.heap.size) (hb : ∀ b, P b → b < w.heap.size → w'.heap[b]? = w.heap[b]?) : x.ok P w' := ⟨h.1.same hs hb, h.2⟩
def secCells (X : List RX) : List Value := X.flatMap RX.cells
theorem secCells_len (X : List RX) : (secCells X).length = X.length * 4 := by
  induction X with
  | nil => rfl
  | cons x r ih => rw [secCells, List.flatMap_cons, List.length_append]; rw [secCells] at ih; rw [ih]; simp [RX.cells]; omega
theorem secCells_get : ∀ (X : List RX) (i j : Nat) (x : RX), X[i]? = some x → j < 4 → (secCells X)[i * 4 + j]? = x.cells[j]?
  | y :: r, 0, j, x, h, hj => by
    simp only [List.getElem?_cons_zero, Option.some.injEq] at h
    subst h
    rw [secCells, List.flatMap_cons, List.getElem?_append_left (by simp [RX.cells]; omega)]
    simp
  | y :: r, i + 1, j, x, h, hj => by
    have ih := secCells_get r i j x (by simpa using h) hj
    rw [secCells, List.flatMap_cons, List.getElem?_append_right (by simp [RX.cells]; omega)]
    have e : (i + 1) * 4 + j - y.cells.length = i * 4 + j := by simp [RX.cells]; omega
    rw [e]
    exact ih
theorem secCells_snoc (X : List RX) (x : RX) : secCells (X ++ [x]) = secCells X ++ x.cells := by simp [secCells]
structure FourAt (w : World) (g k : Nat) (x : RX) : Prop where
  c0 : w.cell? ⟨g, k, none⟩ = some (.int .u64 x.s.area)
  c1 : w.cell? ⟨g, k + 1, none⟩ = some (.int .i64 x.s.n)
  c2 : w.cell? ⟨g, k + 2, none⟩ = some x.lv
  c3 : w.cell? ⟨g, k + 3, none⟩ = some (.bool x.s.sy)
theorem FourAt.below {w w' : World} {g k : Nat} {x : RX} (h : FourAt w g k x) (hg : g < w.heap.size) (hb : Below w.heap.size w w') : FourAt w' g k x :=
  ⟨(hb.cell (p := ⟨g, k, none⟩) hg).trans h.c0, (hb.cell (p := ⟨g, k + 1, none⟩) hg).trans h.c1, (hb.cell (p := ⟨g, k + 2, none⟩) hg).trans h.c2, (hb.cell (p := ⟨g, k + 3, none⟩) hg).trans h.c3⟩
/-- A row of sectors that lies in memory, in blocks of which P is said. -/
def SecRow (P : Nat → Prop) (w : World) (v : Value) (X : List RX) : Prop :=
  ∃ ad cap, v = .slice ad X.length cap ∧ X.length ≤ 1099511627776 ∧ (0 < X.length → ∃ g, ad = some ⟨g, 0, none⟩ ∧ P g ∧ g < w.heap.size ∧ ∀ i x, X[i]? = some x → FourAt w g (i * 4) x) ∧ ∀ x ∈ X, x.ok P w
theorem SecRow.same {P : Nat → Prop} {w w' : World} {v : Value} {X : List RX} (h : SecRow P w v X) (hs : w.heap.size ≤ w'.heap.size) (hb : ∀ b, P b → b < w.heap.size → w'.heap[b]? = w.heap[b]?) : SecRow P w' v X := by
  obtain ⟨ad, cap, rfl, hl, hc, ho⟩ := h
  refine ⟨ad, cap, rfl, hl, fun h0 => ?_, fun x hx => (ho x hx).same hs hb⟩
  obtain ⟨g, rfl, hP, hg, hx⟩ := hc h0
  refine ⟨g, rfl, hP, Nat.lt_of_lt_of_le hg hs, fun i x hi => ?_⟩
  have hh := hb g hP hg
  obtain ⟨c0, c1, c2, c3⟩ := hx i x hi
  exact ⟨(World.cell?_of_block (a := ⟨g, i * 4, none⟩) hh).trans c0, (World.cell?_of_block (a := ⟨g, i * 4 + 1, none⟩) hh).trans c1, (World.cell?_of_block (a := ⟨g, i * 4 + 2, none⟩) hh).trans c2, (World.cell?_of_block (a := ⟨g, i * 4 + 3, none⟩) hh).trans c3⟩
theorem SecRow.below {P : Nat → Prop} {w w' : World} {v : Value} {X : List RX} (h : SecRow P w v X) (hb : Below w.heap.size w w') : SecRow P w' v X := h.same hb.size fun b _ hl => hb.block b hl
theorem SecRow.mono {P Q : Nat → Prop} {w : World} {v : Value} {X : List RX} (h : SecRow P w v X) (hPQ : ∀ b, b < w.heap.size → P b → Q b) : SecRow Q w v X := by
  obtain ⟨ad, cap, rfl, hl, hc, ho⟩ := h
  refine ⟨ad, cap, rfl, hl, fun h0 => ?_, fun x hx => (ho x hx).mono hPQ⟩
  obtain ⟨g, rfl, hP, hg, hx⟩ := hc h0
  exact ⟨g, rfl, hPQ g hg hP, hg, hx⟩
theorem SecRow.nil (P : Nat → Prop) (w : World) : SecRow P w (.slice none 0 0) [] := ⟨none, 0, rfl, by simp, fun h => by simp at h, fun x hx => by cases hx⟩
theorem SecRow.of_own {P : Nat → Prop} {w : World} {base k : Nat} {v : Value} {X : List RX} (h : w.ownsRow base 95 4 v k (secCells X)) (hk : k = X.length) (hl : X.length ≤ 1099511627776) (hP : ∀ b, base ≤ b → P b) (ho : ∀ x ∈ X, x.ok P w) : SecRow P w v X := by
  subst hk
  obtain ⟨h1, h2⟩ := h
  rcases h2 with ⟨rfl, h0⟩ | ⟨g, cap, cur, rfl, hb, hh, h3, h4, h5, h6⟩
  · rw [List.eq_nil_of_length_eq_zero h0]
    exact SecRow.nil P w
  · refine ⟨some ⟨g, 0, none⟩, cap, rfl, hl, fun _ => ⟨g, rfl, hP g hb, (Array.getElem?_eq_some_iff.1 hh).1, fun i x hi => ?_⟩, ho⟩
    have hil := (List.getElem?_eq_some_iff.1 hi).1
    have cell : ∀ j, j < 4 → w.cell? ⟨g, i * 4 + j, none⟩ = x.cells[j]? := fun j hj => by
      have e := secCells_get X i j x hi hj
      rw [← h6, List.getElem?_take, if_pos (by omega)] at e
      simpa [World.cell?, hh] using e
    exact ⟨cell 0 (by omega), cell 1 (by omega), cell 2 (by omega), cell 3 (by omega)⟩
theorem info_sec : (Try.prog.info? 95).map (fun i => (i.zero, i.size, i.bytes)) = some (some (.agg #[.int .u64 0, .int .i64 0, .slice none 0 0, .bool false]), 4, 48) := by kernel_rfl
theorem RX.cells_one {P : Nat → Prop} {x : RX} {w : World} (h : x.ok P w) : ∀ u ∈ x.cells, u.oneCell' = true := by
  obtain ⟨⟨g, c, e, _⟩, _⟩ := h
  intro u hu
  simp only [RX.cells, List.mem_cons, List.not_mem_nil, or_false] at hu
  rcases hu with rfl | rfl | rfl | rfl
  · rfl
  · rfl
  · rw [e]; rfl
  · rfl
/-- The reference's disk, as a value: it is the disk d; P is said of its blocks. -/
def RefIs (P : Nat → Prop) (w : World) (v : Value) (d : DS) : Prop := ∃ l X, v = rdV (rdOf d) l ∧ SecRow P w l X ∧ X.map RX.s = d.secs.map toRS
theorem RefIs.same {P : Nat → Prop} {w w' : World} {v : Value} {d : DS} (h : RefIs P w v d) (hs : w.heap.size ≤ w'.heap.size) (hb : ∀ b, P b → b < w.heap.size → w'.heap[b]? = w.heap[b]?) : RefIs P w' v d := by
  obtain ⟨l, X, e, h1, h2⟩ := h
  exact ⟨l, X, e, h1.same hs hb, h2⟩
theorem RefIs.below {P : Nat → Prop} {w w' : World} {v : Value} {d : DS} (h : RefIs P w v d) (hb : Below w.heap.size w w') : RefIs P w' v d := h.same hb.size fun b _ hl => hb.block b hl
theorem RefIs.mono {P Q : Nat → Prop} {w : World} {v : Value} {d : DS} (h : RefIs P w v d) (hPQ : ∀ b, b < w.heap.size → P b → Q b) : RefIs Q w v d := by
  obtain ⟨l, X, e, h1, h2⟩ := h
  exact ⟨l, X, e, h1.mono hPQ, h2⟩
/-- What a disk is sure to be. -/
structure DsOk (N : Nat) (d : DS) : Prop where
  sorted : d.secs.Pairwise Sec.before
  there : ∀ s ∈ d.secs, s.last ≠ none ∨ s.fresh ≠ []
  last64 : ∀ s ∈ d.secs, ∀ v, s.last = some v → v.length = 64
  fresh64 : ∀ s ∈ d.secs, ∀ v ∈ s.fresh, v.length = 64
  r1 : 0 ≤ d.room
  r2 : d.room ≤ 9223372036854775807
  s1 : 0 ≤ d.steps
  s2 : d.steps ≤ N
  len : d.secs.length ≤ N
  fits : (d.secs.length : Int) ≤ d.room
  fresh : ∀ s ∈ d.secs, s.fresh.length ≤ N
  a1 : -9223372036854775808 ≤ d.ahead
  a2 : d.ahead ≤ 9223372036854775807
  a3 : d.armed = true → 0 ≤ d.ahead
theorem DiskAt.ok {N : Nat} {w : World} {p : Nat} {d : DS} {fp : List Nat} (h : DiskAt N w p d fp) : DsOk N d := by
  obtain ⟨sh, h1, hh, hr, h4, h5, b1, b2, b3, b4, b5, b6, b7, b8, b9, b10⟩ := h
  refine ⟨hr.sorted, hr.there, fun s hs v hv => ?_, fun s hs v hv => ?_, b1, b2, b3, b4, b5, b6, b7, b8, b9, b10⟩
  · have hf := findS_self hr.sorted hs
    have hl := hr.last s.area s.n
    rw [hf, Option.bind_some, hv] at hl
    obtain ⟨x, hx, hy⟩ := Option.bind_eq_some_iff.1 hl
    exact (hh.hli _ (mem_keys_of_mget hx)).2.1 _ (mem_keys_of_mget hy)
  · have hf := findS_self hr.sorted hs
    have hl := hr.fresh s.area s.n
    rw [hf, Option.map_some, Option.getD_some, fget_eq] at hl
    cases hg : fsGet sh.F s.area s.n with
    | none => rw [hg] at hl; simp at hl; rw [hl] at hv; cases hv
    | some y =>
      rw [hg] at hl
      simp at hl
      obtain ⟨x, hx, hy⟩ := Option.bind_eq_some_iff.1 hg
      exact ((hh.hfi _ (mem_keys_of_mget hx)).2.1 _ (mem_keys_of_mget hy)).2.2.2.1 v (by rw [hl]; exact hv)
end Go.Proofs.Ytpmmpdkeahmdiaa
