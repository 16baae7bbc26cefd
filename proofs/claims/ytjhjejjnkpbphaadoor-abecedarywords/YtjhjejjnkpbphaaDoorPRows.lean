/- Rows of pairs: what is read, what the call has made; append; a row behind the sort. -/
import Derived.Test.YtjhjejjnkpbphaaDoorPBase
import Derived.Laws.AppendOwnNone
namespace Go.Proofs.YtjhjejjnkpbphaaDoor
open Go.RowKit Go.Lib Pm
set_option maxRecDepth 100000

theorem belowN {B : Nat} {a w : World} (h : Below B a w) (n : Nat) : Below B a (w.drewN n) := ⟨h.os, h.tape, h.output, h.size, h.block⟩
def cellsP (l : List Pr) : List Value := l.flatMap encP
theorem cellsP_len : ∀ l : List Pr, (cellsP l).length = l.length * 2
  | [] => rfl
  | x :: r => by rw [cellsP, List.flatMap_cons, List.length_append, ← cellsP, cellsP_len r, encP_k, List.length_cons]; omega
theorem cellsP_append (a b : List Pr) : cellsP (a ++ b) = cellsP a ++ cellsP b := List.flatMap_append ..
theorem cellsP_snoc (l : List Pr) (x : Pr) : cellsP (l ++ [x]) = cellsP l ++ encP x := by rw [cellsP_append]; simp [cellsP]
theorem cellsP_get : ∀ (l : List Pr) (i j : Nat) (x : Pr), l[i]? = some x → j < 2 → (cellsP l)[i * 2 + j]? = (encP x)[j]?
  | y :: r, 0, j, x, h, hj => by
    simp only [List.getElem?_cons_zero, Option.some.injEq] at h
    subst h
    rw [cellsP, List.flatMap_cons, List.getElem?_append_left (by rw [encP_k]; omega)]
    simp
  | y :: r, i + 1, j, x, h, hj => by
    have ih := cellsP_get r i j x (by simpa using h) hj
    rw [cellsP, List.flatMap_cons, List.getElem?_append_right (by rw [encP_k]; omega), encP_k]
    rw [show (i + 1) * 2 + j - 2 = i * 2 + j by omega]
    exact ih
theorem cellsP_one (l : List Pr) : ∀ v ∈ cellsP l, v.oneCell' = true := by
  intro v hv
  obtain ⟨x, _, hx⟩ := List.mem_flatMap.1 hv
  exact encP_one x v hx
/-- The two cells of a pair. -/
structure TwoAt (w : World) (g o : Nat) (x : Pr) : Prop where
  c0 : w.cell? ⟨g, o, none⟩ = some (.string x.1)
  c1 : w.cell? ⟨g, o + 1, none⟩ = some (.int .i64 x.2)
theorem TwoAt.below {w w' : World} {g o : Nat} {x : Pr} (h : TwoAt w g o x) {B : Nat} (hg : g < B) (hb : Below B w w') : TwoAt w' g o x :=
  ⟨(hb.cell (p := ⟨g, o, none⟩) hg).trans h.c0, (hb.cell (p := ⟨g, o + 1, none⟩) hg).trans h.c1⟩
theorem TwoAt.lt {w : World} {g o : Nat} {x : Pr} (h : TwoAt w g o x) : g < w.heap.size := lt_of_cell h.c0
theorem TwoAt.load {w : World} {g o : Nat} {x : Pr} (h : TwoAt w g o x) : loadP Tryd.prog (.pointer (some ⟨g, o, none⟩)) w = .ok (valP x) w := loadP_at h.c0 h.c1
/-- A row of pairs that is read. -/
def PRow (w : World) (v : Value) (l : List Pr) : Prop :=
  ∃ ad cap, v = .slice ad l.length cap ∧ (0 < l.length → ∃ g off, ad = some ⟨g, off, none⟩ ∧ g < w.heap.size ∧ ∀ i x, l[i]? = some x → TwoAt w g (off + i * 2) x)
theorem PRow.at {w : World} {ad : Option Addr} {n cap : Nat} {l : List Pr} (h : PRow w (.slice ad n cap) l) (h0 : 0 < n) : ∃ g off, ad = some ⟨g, off, none⟩ ∧ g < w.heap.size ∧ ∀ i x, l[i]? = some x → TwoAt w g (off + i * 2) x := by
  obtain ⟨ad', cap', e, hc⟩ := h
  simp only [Value.slice.injEq] at e
  obtain ⟨rfl, h2, rfl⟩ := e
  exact hc (by omega)
theorem PRow.nil (w : World) : PRow w (.slice none 0 0) [] := ⟨none, 0, rfl, fun h => by simp at h⟩
theorem PRow.below {w w' : World} {v : Value} {l : List Pr} (h : PRow w v l) (hb : Below w.heap.size w w') : PRow w' v l := by
  obtain ⟨ad, cap, rfl, hc⟩ := h
  refine ⟨ad, cap, rfl, fun h0 => ?_⟩
  obtain ⟨g, off, rfl, hg, hx⟩ := hc h0
  exact ⟨g, off, rfl, Nat.lt_of_lt_of_le hg hb.size, fun i x hi => (hx i x hi).below hg hb⟩
/-- A row of pairs that the call has made, in a block not below B. -/
def POwn (B : Nat) (w : World) (v : Value) (l : List Pr) : Prop := w.ownsRow B 54 2 v l.length (cellsP l)
theorem POwn.nil (B : Nat) (w : World) : POwn B w (.slice none 0 0) [] := World.ownsRow_nil _ _ _ _
theorem POwn.below {B : Nat} {w w' : World} {v : Value} {l : List Pr} (h : POwn B w v l) (hb : Below w.heap.size w w') : POwn B w' v l := by
  obtain ⟨hl, hn | ⟨g, cap, cur, rfl, h1, hg, h2⟩⟩ := h
  · exact ⟨hl, .inl hn⟩
  · exact ⟨hl, .inr ⟨g, cap, cur, rfl, h1, (hb.block g (Array.getElem?_eq_some_iff.1 hg).1).trans hg, h2⟩⟩
theorem POwn.mono {B B' : Nat} {w : World} {v : Value} {l : List Pr} (h : POwn B w v l) (hB : B' ≤ B) : POwn B' w v l := by
  obtain ⟨hl, hn | ⟨g, cap, cur, rfl, h1, h2⟩⟩ := h
  · exact ⟨hl, .inl hn⟩
  · exact ⟨hl, .inr ⟨g, cap, cur, rfl, by omega, h2⟩⟩
theorem POwn.shape {B : Nat} {w : World} {v : Value} {l : List Pr} (h : POwn B w v l) : ∃ ad cap, v = .slice ad l.length cap := by
  obtain ⟨hl, ⟨e, h0⟩ | ⟨g, cap, cur, rfl, _⟩⟩ := h
  · exact ⟨none, 0, by rw [e, h0]⟩
  · exact ⟨_, cap, rfl⟩
theorem POwn.cells {w : World} {g : Nat} {cur : Array Value} {l : List Pr} (hh : w.heap[g]? = some (.cells cur 54 (0, 0))) (h6 : cur.toList.take (l.length * 2) = cellsP l) : ∀ i x, l[i]? = some x → TwoAt w g (0 + i * 2) x := by
  intro i x hi
  have hil := (List.getElem?_eq_some_iff.1 hi).1
  have cell : ∀ j, j < 2 → w.cell? ⟨g, i * 2 + j, none⟩ = (encP x)[j]? := fun j hj => by
    have e := cellsP_get l i j x hi hj
    rw [← h6, List.getElem?_take, if_pos (by omega)] at e
    simp only [World.cell?, hh]
    simpa using e
  have c0 := cell 0 (by omega)
  have c1 := cell 1 (by omega)
  exact ⟨by rw [Nat.zero_add]; exact c0, by rw [Nat.zero_add]; exact c1⟩
theorem POwn.row {B : Nat} {w : World} {v : Value} {l : List Pr} (h : POwn B w v l) : PRow w v l := by
  obtain ⟨hl, ⟨e, h0⟩ | ⟨g, cap, cur, rfl, h1, hh, h3, h4, h5, h6⟩⟩ := h
  · rw [List.eq_nil_of_length_eq_zero h0, e]
    exact PRow.nil w
  · exact ⟨some ⟨g, 0, none⟩, cap, rfl, fun _ => ⟨g, 0, rfl, (Array.getElem?_eq_some_iff.1 hh).1, POwn.cells hh h6⟩⟩
/-- What a block's cells are makes the row. -/
theorem POwn.of_cells {B : Nat} {w : World} {g cap : Nat} {cur : Array Value} {l : List Pr} (hB : B ≤ g) (hh : w.heap[g]? = some (.cells cur 54 (0, 0))) (h3 : l.length ≤ cap) (h4 : cap ≤ maxLen) (h5 : cur.size = cap * 2) (hc : ∀ i x, l[i]? = some x → TwoAt w g (i * 2) x) :
    POwn B w (.slice (some ⟨g, 0, none⟩) l.length cap) l := by
  refine ⟨cellsP_len l, .inr ⟨g, cap, cur, rfl, hB, hh, h3, h4, h5, ?_⟩⟩
  refine List.ext_getElem (by rw [List.length_take, cellsP_len]; simp; omega) fun t p q => ?_
  rw [cellsP_len] at q
  obtain ⟨i, j, rfl, hj⟩ : ∃ i j, t = i * 2 + j ∧ j < 2 := ⟨t / 2, t % 2, by omega, by omega⟩
  have hi : i < l.length := by omega
  have hx : l[i]? = some l[i] := List.getElem?_eq_getElem hi
  have e1 := cellsP_get l i j l[i] hx hj
  have e2 := hc i l[i] hx
  have e3 : (cur.toList)[i * 2 + j]? = (encP l[i])[j]? := by
    rcases (by omega : j = 0 ∨ j = 1) with rfl | rfl
    · have := e2.c0
      simp only [World.cell?, hh] at this
      simpa [encP] using this
    · have := e2.c1
      simp only [World.cell?, hh] at this
      simpa [encP] using this
  have e4 : (cur.toList.take (l.length * 2))[i * 2 + j]? = (cellsP l)[i * 2 + j]? := by
    rw [List.getElem?_take, if_pos (by omega), e3, e1]
  rw [List.getElem?_eq_getElem p, List.getElem?_eq_getElem (by rw [cellsP_len]; exact q)] at e4
  exact Option.some.inj e4
theorem info_P : (Tryd.prog.info? 54).map (fun i => (i.zero, i.size, i.bytes)) = some (some (.agg #[.string ByteArray.empty, .int .i64 0]), 2, 24) := by kernel_rfl
theorem ownBelow {B : Nat} {w w' : World} {v : Value} {l : List Pr} (h : POwn B w v l) (hg : w.grownBy w' v.ownBlock) (hB : B ≤ w.heap.size) : Below B w w' :=
  (Below.refl B w).grown hg hB (fun k hk => (World.ownsRow.lt h k hk).1)
/-- What is made is made still, where only blocks not below B were turned, and not its own. -/
theorem PRow.grown {w w' : World} {v u : Value} {l m : List Pr} {B : Nat} (h : PRow w v l) (ho : POwn B w u m) (hg : w.grownBy w' u.ownBlock) (hv : ∀ ad cap, v = .slice (some ad) l.length cap → 0 < l.length → ad.block < B) (hB : B ≤ w.heap.size) : PRow w' v l := by
  have hb := ownBelow ho hg hB
  obtain ⟨ad, cap, rfl, hc⟩ := h
  refine ⟨ad, cap, rfl, fun h0 => ?_⟩
  obtain ⟨g, off, rfl, hgl, hx⟩ := hc h0
  exact ⟨g, off, rfl, Nat.lt_of_lt_of_le hgl hb.size, fun i x hi => (hx i x hi).below (hv _ _ rfl h0) hb⟩
/-- 'append(l, m...)' where the call has made l: what the builtin does. -/
theorem append_run {w : World} {B : Nat} {v s : Value} {l m : List Pr} (hown : POwn B w v l) (hr : PRow w s m) (hB : B ≤ w.heap.size) (h63 : l.length + m.length ≤ 2199023255552) (ty : TypeId) :
    ∃ v' w', (Builtin.append_ #[31, 31] ty #[v, s]).run Tryd.prog w = .ok v' w' ∧ POwn B w' v' (l ++ m) ∧ w.grownBy w' v.ownBlock := by
  obtain ⟨i0, hi, hz0, hz1, hz2⟩ := info_parts info_P
  obtain ⟨ad, cap, rfl, hc⟩ := hr
  rcases Nat.eq_zero_or_pos m.length with h0 | h0
  · have hm : m = [] := List.eq_nil_of_length_eq_zero h0
    subst hm
    refine ⟨v, w, ?_, by simpa using hown, ⟨rfl, rfl, rfl, Nat.le_refl _, fun _ _ _ => rfl⟩⟩
    obtain ⟨_, h2⟩ := hown
    rcases h2 with ⟨rfl, h0⟩ | ⟨g, cap, cur, rfl, hb, hh, h3, h4, h5, h6⟩
    · cases ad <;> go_simp
    · cases ad <;> go_simp
  · obtain ⟨g, off, rfl, hg, hx⟩ := hc h0
    obtain ⟨v', w', h1, h2, h3, _⟩ := run_append_own (P := Tryd.prog) w B 31 ty 54 i0 _ 2 24 Tryd.underlying31 hi hz0 hz1 hz2 rfl (by decide) v l.length _ hown ⟨g, off, none⟩ m.length cap (cellsP m) (cellsP_len m) (fun j u hj => by
      have hjl := (List.getElem?_eq_some_iff.1 hj).1
      rw [cellsP_len] at hjl
      obtain ⟨i, r, rfl, hr⟩ : ∃ i r, j = i * 2 + r ∧ r < 2 := ⟨j / 2, j % 2, by omega, by omega⟩
      have hi : i < m.length := by omega
      have e2 := hx i m[i] (List.getElem?_eq_getElem hi)
      rw [cellsP_get m i r m[i] (List.getElem?_eq_getElem hi) hr] at hj
      have hadd : ∀ j, (⟨g, off, none⟩ : Addr).add j = ⟨g, off + j, none⟩ := fun j => by unfold Addr.add; split <;> simp_all
      rw [hadd, ← Nat.add_assoc]
      rcases (by omega : r = 0 ∨ r = 1) with rfl | rfl
      · simp only [encP, List.getElem?_cons_zero, Option.some.injEq] at hj
        rw [← hj]; exact e2.c0
      · simp only [encP, List.getElem?_cons_succ, List.getElem?_cons_zero, Option.some.injEq] at hj
        rw [← hj]; exact e2.c1) (cellsP_one m) (by simp only [maxLen]; omega) (by omega) hB
    refine ⟨v', w', h1, ?_, h3⟩
    unfold POwn
    rw [List.length_append, cellsP_append]
    exact h2
/-- A row of one new pair. -/
theorem PRow.one {w : World} {g : Nat} {x : Pr} {c : Nat} (h : TwoAt w g 0 x) : PRow w (.slice (some ⟨g, 0, none⟩) 1 c) [x] :=
  ⟨_, c, rfl, fun _ => ⟨g, 0, rfl, h.lt, fun i y hi => by
    cases i with
    | zero => simp only [List.getElem?_cons_zero, Option.some.injEq] at hi; subst hi; simpa using h
    | succ i => simp at hi⟩⟩
/-- The law of append in a walk. -/
theorem append_p {w : World} {ops : Array Oper} {rest : List Oper} {o : Oper} {a : Act} {Q : Exit → Act → World → Prop} (hgd : o.guard = none) (s x : Operand)
    (ho : o.op = .call { callee := .builtin .append, args := #[s, x], argTypes := #[31, 31] }) (B : Nat) (v u : Value) (l m : List Pr) (hs : a.eval s = v) (hown : POwn B w v l) (hx : a.eval x = u) (hr : PRow w u m) (h63 : l.length + m.length ≤ 2199023255552) (hB : B ≤ w.heap.size)
    (h : ∀ v' w', POwn B w' v' (l ++ m) → Below B w w' → w.grownBy w' v.ownBlock → wpList Tryd.prog ops Q rest (a.put o.dst v') w') : wpList Tryd.prog ops Q (o :: rest) a w := by
  obtain ⟨v', w', h1, h2, h3⟩ := append_run hown hr hB h63 o.type
  refine wpList_plain hgd fun _ hK => ?_
  unfold Oper.wp execOp
  simp only [ho, resolve, invoke, builtin, Sem.run_bind, Sem.run_pure, Result.andThen_ok, List.map_toArray, List.map_cons, List.map_nil, hs, hx, h1]
  exact hK _ _ (h v' w' h2 (ownBelow hown h3 hB) h3)

theorem TwoAt.new (W : World) (x : Pr) (T : TypeId) : TwoAt (W.alloc (.cells #[.string x.1, .int .i64 x.2] T)) W.heap.size 0 x := ⟨by simp, by simp⟩
/-- 'append(l, x)': the pair x lies in a block that was made for it. -/
theorem append_x {W : World} {ops : Array Oper} {rest : List Oper} {o : Oper} {a : Act} {Q : Exit → Act → World → Prop} (hgd : o.guard = none) (s y : Operand) (x : Pr) (T : TypeId)
    (ho : o.op = .call { callee := .builtin .append, args := #[s, y], argTypes := #[31, 31] }) (B nb c : Nat) (v : Value) (l : List Pr) (hs : a.eval s = v) (hown : POwn B W v l) (hx : a.eval y = .slice (some ⟨nb, 0, none⟩) 1 c) (hnb : nb = W.heap.size) (h63 : l.length < 2199023255552) (hB : B ≤ W.heap.size)
    (h : ∀ v' w', POwn B w' v' (l ++ [x]) → Below B W w' → wpList Tryd.prog ops Q rest (a.put o.dst v') w') : wpList Tryd.prog ops Q (o :: rest) a (W.alloc (.cells #[.string x.1, .int .i64 x.2] T)) := by
  subst hnb
  refine append_p hgd s y ho B v _ l [x] hs (hown.below ((Below.refl _ W).alloc (Nat.le_refl _) _)) hx (PRow.one (TwoAt.new W x T)) (by simp; omega) (by simp; omega) fun v' w' h1 h2 _ => h v' w' h1 (((Below.refl B W).alloc hB _).trans h2)
theorem alloc_newP (w : World) (o : Obj) : (w.alloc o).heap[w.heap.size]? = some o := (MapKept.heap_alloc w o).1
end Go.Proofs.YtjhjejjnkpbphaaDoor
