/- Texts that were written apart, joined. -/
import Derived.Test.YthjlihhknaelaaaDoorJ1
import Derived.WalkSmall
import Derived.Deep.LoopGhost
import Derived.Laws.AppendOwnNone
import Derived.Test.YthjlihhknaelaaaDoorJ0
import Derived.Deep.QuietTactic
import Derived.BigQuiet
import Derived.Deep.Cut
import Derived.Deep.Strs
import Derived.Lib.SmallJoins
/- Pairs in memory: rows that are read, rows that the call has made (tpl6's PBase without the sort). -/
namespace Go.Proofs.YthjlihhknaelaaaDoor
open Go.RowKit Go.Lib Pm
set_option maxRecDepth 100000

/-- A word and a weight. -/
abbrev Pr := ByteArray × Int
def encP (x : Pr) : List Value := [.string x.1, .int .i64 x.2]
def valP (x : Pr) : Value := .agg #[.string x.1, .int .i64 x.2]
theorem valP_enc (x : Pr) : Value.agg (encP x).toArray = valP x := rfl
def lessB (a b : ByteArray) : Bool := Op.bytesLess a.data.toList b.data.toList

theorem bl_irr : ∀ a : List UInt8, Op.bytesLess a a = false
  | [] => by rw [Op.bytesLess.eq_1]
  | a :: x => by rw [Op.bytesLess.eq_3, bl_irr x]; simp
theorem bl_nil (a : List UInt8) : Op.bytesLess a [] = false := by rw [Op.bytesLess.eq_1]
theorem bl_tr : ∀ a b c : List UInt8, Op.bytesLess a b = true → Op.bytesLess b c = true → Op.bytesLess a c = true
  | _, [], _, h, _ => by rw [bl_nil] at h; cases h
  | _, _ :: _, [], _, h => by rw [bl_nil] at h; cases h
  | [], _ :: _, _ :: _, _, _ => by rw [Op.bytesLess.eq_2]
  | a :: x, b :: y, c :: z, h1, h2 => by
    rw [Op.bytesLess.eq_3] at h1 h2 ⊢
    simp only [Bool.or_eq_true, Bool.and_eq_true, decide_eq_true_eq, beq_iff_eq] at h1 h2 ⊢
    rcases h1 with h1 | ⟨rfl, h1⟩
    · rcases h2 with h2 | ⟨rfl, h2⟩
      · exact .inl (UInt8.lt_trans h1 h2)
      · exact .inl h1
    · rcases h2 with h2 | ⟨rfl, h2⟩
      · exact .inl h2
      · exact .inr ⟨rfl, bl_tr x y z h1 h2⟩
theorem bl_tot : ∀ a b : List UInt8, Op.bytesLess a b = false → Op.bytesLess b a = false → a = b
  | [], [], _, _ => rfl
  | [], _ :: _, h, _ => by rw [Op.bytesLess.eq_2] at h; cases h
  | _ :: _, [], _, h => by rw [Op.bytesLess.eq_2] at h; cases h
  | a :: x, b :: y, h1, h2 => by
    rw [Op.bytesLess.eq_3] at h1 h2
    simp only [Bool.or_eq_false_iff, Bool.and_eq_false_iff, decide_eq_false_iff_not, beq_eq_false_iff_ne] at h1 h2
    have e : a = b := UInt8.le_antisymm (UInt8.not_lt.1 h2.1) (UInt8.not_lt.1 h1.1)
    subst e
    rw [bl_tot x y (h1.2.resolve_left (fun h => h rfl)) (h2.2.resolve_left (fun h => h rfl))]
theorem ba_ext {a b : ByteArray} (h : a.data.toList = b.data.toList) : a = b := by
  cases a; cases b; simp only [ByteArray.mk.injEq] at h ⊢; exact Array.toList_inj.1 h
theorem lessB_sto : STO lessB := ⟨fun _ => bl_irr _, fun _ _ _ => bl_tr _ _ _, fun _ _ h1 h2 => ba_ext (bl_tot _ _ h1 h2)⟩
theorem strEq (a b : ByteArray) : (a.toList == b.toList) = decide (a = b) := by
  rw [Bool.eq_iff_iff, beq_iff_eq, decide_eq_true_iff, ByteArray.toList_eq, ByteArray.toList_eq]
  exact ⟨ba_ext, fun h => by rw [h]⟩

theorem pless_any (a b : ByteArray) (w : World) : Calls Tryd.prog 36 #[.string a, .string b] w fun e w' => e = .returned (.bool (lessB a b)) ∧ w' = w := by
  have HL : Hid (Op.bytesLess a.toList b.toList = lessB a b) := by
    show Op.bytesLess _ _ = _
    rw [ByteArray.toList_eq, ByteArray.toList_eq]; rfl
  go_enter Tryd.func36, Tryd.ntmps36
  go_wp2
  go_ret
  exact ⟨by rw [HL.out]; rfl, rfl⟩
/-! A pair loaded and stored whole. -/
def loadP (P : Program) (x : Value) (w : World) : Result Value := (Instr.loadAt 39 x).run P w
def storeP (P : Program) (x y : Value) (w : World) : Result Unit := (Instr.storeAt 39 x y).run P w
section
variable (ρ : Operand → Value) (x y : Operand) (dst : Option Tmp) (ty : TypeId) (pos : String) (af : Array Edge) (g : Option (Nat × Bool)) (w : World)
theorem exec_load_P : (execOp ρ ⟨dst, .load 39 x, ty, pos, af, g⟩).run Tryd.prog w = (loadP Tryd.prog (ρ x) w).andThen (fun v w' => .ok (.value v) w') := by
  simp only [execOp, Sem.run_bind, loadP, Sem.run_pure]
theorem exec_store_P : (execOp ρ ⟨dst, .store 39 x y, ty, pos, af, g⟩).run Tryd.prog w = (storeP Tryd.prog (ρ x) (ρ y) w).andThen (fun _ w' => .ok .skip w') := by
  simp only [execOp, Sem.run_bind, storeP, Sem.run_pure]
end
theorem loadP_at {w : World} {b o : Nat} {x : Pr} (h0 : w.cell? ⟨b, o, none⟩ = some (.string x.1)) (h1 : w.cell? ⟨b, o + 1, none⟩ = some (.int .i64 x.2)) : loadP Tryd.prog (.pointer (some ⟨b, o, none⟩)) w = .ok (valP x) w := by
  unfold loadP valP
  simp [go_sem, h0, h1]
  try rfl
theorem storeP_at {w : World} {b o : Nat} {x : Pr} {u v : Value} (h0 : w.cell? ⟨b, o, none⟩ = some u) (h1 : w.cell? ⟨b, o + 1, none⟩ = some v) (f0 : w.frozen? ⟨b, o, none⟩ = false) (f1 : w.frozen? ⟨b, o + 1, none⟩ = false) : storeP Tryd.prog (.pointer (some ⟨b, o, none⟩)) (valP x) w = .ok () (w.setCells b o (encP x)) := by
  unfold storeP valP
  simp [go_sem, h0, h1, f0, f1, encP, World.setCells]
  try rfl
theorem encP_k (x : Pr) : (encP x).length = 2 := rfl
theorem encP_one (x : Pr) : ∀ v ∈ encP x, v.oneCell' = true := by intro v hv; simp [encP] at hv; rcases hv with rfl | rfl <;> rfl
theorem mixedP : Tryd.prog.follows .mixedOrders = true := by kernel_rfl
end Go.Proofs.YthjlihhknaelaaaDoor

/- Rows of pairs: what is read, what the call has made; append; a row behind the sort. -/
namespace Go.Proofs.YthjlihhknaelaaaDoor
open Go.RowKit Go.Lib Pm
set_option maxRecDepth 100000

theorem belowN {B : Nat} {a w : World} (h : Below B a w) (n : Nat) : Below B a (w.drewN n) := ⟨h.os, h.tape, h.output, h.size, h.block⟩
def cellsP (l : List Pr) : List Value := l.flatMap encP
theorem cellsP_len : ∀ l : List Pr, (cellsP l).length = l.length * 2
  | [] => rfl
  | x :: r => by rw [cellsP, List.flatMap_cons, List.length_append, ← cellsP, cellsP_len r, encP_k, List.length_cons]; omega
theorem cellsP_append (a b : List Pr) : cellsP (a ++ b) = cellsP a ++ cellsP b := List.flatMap_append ..
theorem cellsP_snoc (l : List Pr) (x : Pr) : cellsP (l ++ [x]) = cellsP l ++ encP x := by rw [cellsP_append]; simp [cellsP]
theorem cellsP_get : ∀ (l : List Pr) (i j : Nat) (x : Pr), l[i]? = some x → j < 2 → (cellsP l)[i * 2 + j]? = (encP x)[j]?
  | y :: r, 0, j, x, h, hj => by
    simp only [List.getElem?_cons_zero, Option.some.injEq] at h
    subst h
    rw [cellsP, List.flatMap_cons, List.getElem?_append_left (by rw [encP_k]; omega)]
    simp
  | y :: r, i + 1, j, x, h, hj => by
    have ih := cellsP_get r i j x (by simpa using h) hj
    rw [cellsP, List.flatMap_cons, List.getElem?_append_right (by rw [encP_k]; omega), encP_k]
    rw [show (i + 1) * 2 + j - 2 = i * 2 + j by omega]
    exact ih
theorem cellsP_one (l : List Pr) : ∀ v ∈ cellsP l, v.oneCell' = true := by
  intro v hv
  obtain ⟨x, _, hx⟩ := List.mem_flatMap.1 hv
  exact encP_one x v hx
/-- The two cells of a pair. -/
structure TwoAt (w : World) (g o : Nat) (x : Pr) : Prop where
  c0 : w.cell? ⟨g, o, none⟩ = some (.string x.1)
  c1 : w.cell? ⟨g, o + 1, none⟩ = some (.int .i64 x.2)
theorem TwoAt.below {w w' : World} {g o : Nat} {x : Pr} (h : TwoAt w g o x) {B : Nat} (hg : g < B) (hb : Below B w w') : TwoAt w' g o x :=
  ⟨(hb.cell (p := ⟨g, o, none⟩) hg).trans h.c0, (hb.cell (p := ⟨g, o + 1, none⟩) hg).trans h.c1⟩
theorem TwoAt.lt {w : World} {g o : Nat} {x : Pr} (h : TwoAt w g o x) : g < w.heap.size := lt_of_cell h.c0
theorem TwoAt.load {w : World} {g o : Nat} {x : Pr} (h : TwoAt w g o x) : loadP Tryd.prog (.pointer (some ⟨g, o, none⟩)) w = .ok (valP x) w := loadP_at h.c0 h.c1
/-- A row of pairs that is read. -/
def PRow (w : World) (v : Value) (l : List Pr) : Prop :=
  ∃ ad cap, v = .slice ad l.length cap ∧ (0 < l.length → ∃ g off, ad = some ⟨g, off, none⟩ ∧ g < w.heap.size ∧ ∀ i x, l[i]? = some x → TwoAt w g (off + i * 2) x)
theorem PRow.at {w : World} {ad : Option Addr} {n cap : Nat} {l : List Pr} (h : PRow w (.slice ad n cap) l) (h0 : 0 < n) : ∃ g off, ad = some ⟨g, off, none⟩ ∧ g < w.heap.size ∧ ∀ i x, l[i]? = some x → TwoAt w g (off + i * 2) x := by
  obtain ⟨ad', cap', e, hc⟩ := h
  simp only [Value.slice.injEq] at e
  obtain ⟨rfl, h2, rfl⟩ := e
  exact hc (by omega)
theorem PRow.nil (w : World) : PRow w (.slice none 0 0) [] := ⟨none, 0, rfl, fun h => by simp at h⟩
theorem PRow.below {w w' : World} {v : Value} {l : List Pr} (h : PRow w v l) (hb : Below w.heap.size w w') : PRow w' v l := by
  obtain ⟨ad, cap, rfl, hc⟩ := h
  refine ⟨ad, cap, rfl, fun h0 => ?_⟩
  obtain ⟨g, off, rfl, hg, hx⟩ := hc h0
  exact ⟨g, off, rfl, Nat.lt_of_lt_of_le hg hb.size, fun i x hi => (hx i x hi).below hg hb⟩
/-- A row of pairs that the call has made, in a block not below B. -/
def POwn (B : Nat) (w : World) (v : Value) (l : List Pr) : Prop := w.ownsRow B 39 2 v l.length (cellsP l)
theorem POwn.nil (B : Nat) (w : World) : POwn B w (.slice none 0 0) [] := World.ownsRow_nil _ _ _ _
theorem POwn.below {B : Nat} {w w' : World} {v : Value} {l : List Pr} (h : POwn B w v l) (hb : Below w.heap.size w w') : POwn B w' v l := by
  obtain ⟨hl, hn | ⟨g, cap, cur, rfl, h1, hg, h2⟩⟩ := h
  · exact ⟨hl, .inl hn⟩
  · exact ⟨hl, .inr ⟨g, cap, cur, rfl, h1, (hb.block g (Array.getElem?_eq_some_iff.1 hg).1).trans hg, h2⟩⟩
theorem POwn.mono {B B' : Nat} {w : World} {v : Value} {l : List Pr} (h : POwn B w v l) (hB : B' ≤ B) : POwn B' w v l := by
  obtain ⟨hl, hn | ⟨g, cap, cur, rfl, h1, h2⟩⟩ := h
  · exact ⟨hl, .inl hn⟩
  · exact ⟨hl, .inr ⟨g, cap, cur, rfl, by omega, h2⟩⟩
theorem POwn.shape {B : Nat} {w : World} {v : Value} {l : List Pr} (h : POwn B w v l) : ∃ ad cap, v = .slice ad l.length cap := by
  obtain ⟨hl, ⟨e, h0⟩ | ⟨g, cap, cur, rfl, _⟩⟩ := h
  · exact ⟨none, 0, by rw [e, h0]⟩
  · exact ⟨_, cap, rfl⟩
theorem POwn.cells {w : World} {g : Nat} {cur : Array Value} {l : List Pr} (hh : w.heap[g]? = some (.cells cur 39 (0, 0))) (h6 : cur.toList.take (l.length * 2) = cellsP l) : ∀ i x, l[i]? = some x → TwoAt w g (0 + i * 2) x := by
  intro i x hi
  have hil := (List.getElem?_eq_some_iff.1 hi).1
  have cell : ∀ j, j < 2 → w.cell? ⟨g, i * 2 + j, none⟩ = (encP x)[j]? := fun j hj => by
    have e := cellsP_get l i j x hi hj
    rw [← h6, List.getElem?_take, if_pos (by omega)] at e
    simp only [World.cell?, hh]
    simpa using e
  have c0 := cell 0 (by omega)
  have c1 := cell 1 (by omega)
  exact ⟨by rw [Nat.zero_add]; exact c0, by rw [Nat.zero_add]; exact c1⟩
theorem POwn.row {B : Nat} {w : World} {v : Value} {l : List Pr} (h : POwn B w v l) : PRow w v l := by
  obtain ⟨hl, ⟨e, h0⟩ | ⟨g, cap, cur, rfl, h1, hh, h3, h4, h5, h6⟩⟩ := h
  · rw [List.eq_nil_of_length_eq_zero h0, e]
    exact PRow.nil w
  · exact ⟨some ⟨g, 0, none⟩, cap, rfl, fun _ => ⟨g, 0, rfl, (Array.getElem?_eq_some_iff.1 hh).1, POwn.cells hh h6⟩⟩
/-- What a block's cells are makes the row. -/
theorem POwn.of_cells {B : Nat} {w : World} {g cap : Nat} {cur : Array Value} {l : List Pr} (hB : B ≤ g) (hh : w.heap[g]? = some (.cells cur 39 (0, 0))) (h3 : l.length ≤ cap) (h4 : cap ≤ maxLen) (h5 : cur.size = cap * 2) (hc : ∀ i x, l[i]? = some x → TwoAt w g (i * 2) x) :
    POwn B w (.slice (some ⟨g, 0, none⟩) l.length cap) l := by
  refine ⟨cellsP_len l, .inr ⟨g, cap, cur, rfl, hB, hh, h3, h4, h5, ?_⟩⟩
  refine List.ext_getElem (by rw [List.length_take, cellsP_len]; simp; omega) fun t p q => ?_
  rw [cellsP_len] at q
  obtain ⟨i, j, rfl, hj⟩ : ∃ i j, t = i * 2 + j ∧ j < 2 := ⟨t / 2, t % 2, by omega, by omega⟩
  have hi : i < l.length := by omega
  have hx : l[i]? = some l[i] := List.getElem?_eq_getElem hi
  have e1 := cellsP_get l i j l[i] hx hj
  have e2 := hc i l[i] hx
  have e3 : (cur.toList)[i * 2 + j]? = (encP l[i])[j]? := by
    rcases (by omega : j = 0 ∨ j = 1) with rfl | rfl
    · have := e2.c0
      simp only [World.cell?, hh] at this
      simpa [encP] using this
    · have := e2.c1
      simp only [World.cell?, hh] at this
      simpa [encP] using this
  have e4 : (cur.toList.take (l.length * 2))[i * 2 + j]? = (cellsP l)[i * 2 + j]? := by
    rw [List.getElem?_take, if_pos (by omega), e3, e1]
  rw [List.getElem?_eq_getElem p, List.getElem?_eq_getElem (by rw [cellsP_len]; exact q)] at e4
  exact Option.some.inj e4
theorem info_P : (Tryd.prog.info? 39).map (fun i => (i.zero, i.size, i.bytes)) = some (some (.agg #[.string ByteArray.empty, .int .i64 0]), 2, 24) := by kernel_rfl
theorem ownBelow {B : Nat} {w w' : World} {v : Value} {l : List Pr} (h : POwn B w v l) (hg : w.grownBy w' v.ownBlock) (hB : B ≤ w.heap.size) : Below B w w' :=
  (Below.refl B w).grown hg hB (fun k hk => (World.ownsRow.lt h k hk).1)
/-- What is made is made still, where only blocks not below B were turned, and not its own. -/
theorem PRow.grown {w w' : World} {v u : Value} {l m : List Pr} {B : Nat} (h : PRow w v l) (ho : POwn B w u m) (hg : w.grownBy w' u.ownBlock) (hv : ∀ ad cap, v = .slice (some ad) l.length cap → 0 < l.length → ad.block < B) (hB : B ≤ w.heap.size) : PRow w' v l := by
  have hb := ownBelow ho hg hB
  obtain ⟨ad, cap, rfl, hc⟩ := h
  refine ⟨ad, cap, rfl, fun h0 => ?_⟩
  obtain ⟨g, off, rfl, hgl, hx⟩ := hc h0
  exact ⟨g, off, rfl, Nat.lt_of_lt_of_le hgl hb.size, fun i x hi => (hx i x hi).below (hv _ _ rfl h0) hb⟩
/-- 'append(l, m...)' where the call has made l: what the builtin does. -/
theorem append_run {w : World} {B : Nat} {v s : Value} {l m : List Pr} (hown : POwn B w v l) (hr : PRow w s m) (hB : B ≤ w.heap.size) (h63 : l.length + m.length ≤ 2199023255552) (ty : TypeId) :
    ∃ v' w', (Builtin.append_ #[22, 22] ty #[v, s]).run Tryd.prog w = .ok v' w' ∧ POwn B w' v' (l ++ m) ∧ w.grownBy w' v.ownBlock := by
  obtain ⟨i0, hi, hz0, hz1, hz2⟩ := info_parts info_P
  obtain ⟨ad, cap, rfl, hc⟩ := hr
  rcases Nat.eq_zero_or_pos m.length with h0 | h0
  · have hm : m = [] := List.eq_nil_of_length_eq_zero h0
    subst hm
    refine ⟨v, w, ?_, by simpa using hown, ⟨rfl, rfl, rfl, Nat.le_refl _, fun _ _ _ => rfl⟩⟩
    obtain ⟨_, h2⟩ := hown
    rcases h2 with ⟨rfl, h0⟩ | ⟨g, cap, cur, rfl, hb, hh, h3, h4, h5, h6⟩
    · cases ad <;> go_simp
    · cases ad <;> go_simp
  · obtain ⟨g, off, rfl, hg, hx⟩ := hc h0
    obtain ⟨v', w', h1, h2, h3, _⟩ := run_append_own (P := Tryd.prog) w B 22 ty 39 i0 _ 2 24 Tryd.underlying22 hi hz0 hz1 hz2 rfl (by decide) v l.length _ hown ⟨g, off, none⟩ m.length cap (cellsP m) (cellsP_len m) (fun j u hj => by
      have hjl := (List.getElem?_eq_some_iff.1 hj).1
      rw [cellsP_len] at hjl
      obtain ⟨i, r, rfl, hr⟩ : ∃ i r, j = i * 2 + r ∧ r < 2 := ⟨j / 2, j % 2, by omega, by omega⟩
      have hi : i < m.length := by omega
      have e2 := hx i m[i] (List.getElem?_eq_getElem hi)
      rw [cellsP_get m i r m[i] (List.getElem?_eq_getElem hi) hr] at hj
      have hadd : ∀ j, (⟨g, off, none⟩ : Addr).add j = ⟨g, off + j, none⟩ := fun j => by unfold Addr.add; split <;> simp_all
      rw [hadd, ← Nat.add_assoc]
      rcases (by omega : r = 0 ∨ r = 1) with rfl | rfl
      · simp only [encP, List.getElem?_cons_zero, Option.some.injEq] at hj
        rw [← hj]; exact e2.c0
      · simp only [encP, List.getElem?_cons_succ, List.getElem?_cons_zero, Option.some.injEq] at hj
        rw [← hj]; exact e2.c1) (cellsP_one m) (by simp only [maxLen]; omega) (by omega) hB
    refine ⟨v', w', h1, ?_, h3⟩
    unfold POwn
    rw [List.length_append, cellsP_append]
    exact h2
/-- A row of one new pair. -/
theorem PRow.one {w : World} {g : Nat} {x : Pr} {c : Nat} (h : TwoAt w g 0 x) : PRow w (.slice (some ⟨g, 0, none⟩) 1 c) [x] :=
  ⟨_, c, rfl, fun _ => ⟨g, 0, rfl, h.lt, fun i y hi => by
    cases i with
    | zero => simp only [List.getElem?_cons_zero, Option.some.injEq] at hi; subst hi; simpa using h
    | succ i => simp at hi⟩⟩
/-- The law of append in a walk. -/
theorem append_p {w : World} {ops : Array Oper} {rest : List Oper} {o : Oper} {a : Act} {Q : Exit → Act → World → Prop} (hgd : o.guard = none) (s x : Operand)
    (ho : o.op = .call { callee := .builtin .append, args := #[s, x], argTypes := #[22, 22] }) (B : Nat) (v u : Value) (l m : List Pr) (hs : a.eval s = v) (hown : POwn B w v l) (hx : a.eval x = u) (hr : PRow w u m) (h63 : l.length + m.length ≤ 2199023255552) (hB : B ≤ w.heap.size)
    (h : ∀ v' w', POwn B w' v' (l ++ m) → Below B w w' → w.grownBy w' v.ownBlock → wpList Tryd.prog ops Q rest (a.put o.dst v') w') : wpList Tryd.prog ops Q (o :: rest) a w := by
  obtain ⟨v', w', h1, h2, h3⟩ := append_run hown hr hB h63 o.type
  refine wpList_plain hgd fun _ hK => ?_
  unfold Oper.wp execOp
  simp only [ho, resolve, invoke, builtin, Sem.run_bind, Sem.run_pure, Result.andThen_ok, List.map_toArray, List.map_cons, List.map_nil, hs, hx, h1]
  exact hK _ _ (h v' w' h2 (ownBelow hown h3 hB) h3)

theorem TwoAt.new (W : World) (x : Pr) (T : TypeId) : TwoAt (W.alloc (.cells #[.string x.1, .int .i64 x.2] T)) W.heap.size 0 x := ⟨by simp, by simp⟩
/-- 'append(l, x)': the pair x lies in a block that was made for it. -/
theorem append_x {W : World} {ops : Array Oper} {rest : List Oper} {o : Oper} {a : Act} {Q : Exit → Act → World → Prop} (hgd : o.guard = none) (s y : Operand) (x : Pr) (T : TypeId)
    (ho : o.op = .call { callee := .builtin .append, args := #[s, y], argTypes := #[22, 22] }) (B nb c : Nat) (v : Value) (l : List Pr) (hs : a.eval s = v) (hown : POwn B W v l) (hx : a.eval y = .slice (some ⟨nb, 0, none⟩) 1 c) (hnb : nb = W.heap.size) (h63 : l.length < 2199023255552) (hB : B ≤ W.heap.size)
    (h : ∀ v' w', POwn B w' v' (l ++ [x]) → Below B W w' → wpList Tryd.prog ops Q rest (a.put o.dst v') w') : wpList Tryd.prog ops Q (o :: rest) a (W.alloc (.cells #[.string x.1, .int .i64 x.2] T)) := by
  subst hnb
  refine append_p hgd s y ho B v _ l [x] hs (hown.below ((Below.refl _ W).alloc (Nat.le_refl _) _)) hx (PRow.one (TwoAt.new W x T)) (by simp; omega) (by simp; omega) fun v' w' h1 h2 _ => h v' w' h1 (((Below.refl B W).alloc hB _).trans h2)
theorem alloc_newP (w : World) (o : Obj) : (w.alloc o).heap[w.heap.size]? = some o := (MapKept.heap_alloc w o).1
end Go.Proofs.YthjlihhknaelaaaDoor

/- letters.Runes: the runes of which a text is the writing, in new memory, or none. -/
namespace Go.Proofs.YthjlihhknaelaaaDoor
open Go.RowKit Nums
set_option maxRecDepth 100000

theorem infoRune : (Tryd.prog.info? 21).map (fun i => (i.zero, i.size, i.bytes)) = some (some (.int .i32 0), 1, 4) := by kernel_rfl

/-- What a slice of runes that the call has made is good for: its value, and that it owns the numbers xs. -/
def Made (B : Nat) (w : World) (v : Value) (xs : List Int) : Prop := w.ownsRow B 21 1 v xs.length (xs.map (Value.int .i32))

/-- What is owned is owned still where nothing old was written. -/
theorem Made.below {B : Nat} {w w' : World} {v : Value} {xs : List Int} (h : Made B w v xs) (hb : Below w.heap.size w w') : Made B w' v xs := by
  obtain ⟨hl, hn | ⟨g, cap, cur, rfl, h1, hg, h2⟩⟩ := h
  · exact ⟨hl, .inl hn⟩
  · exact ⟨hl, .inr ⟨g, cap, cur, rfl, h1, (hb.block g (Array.getElem?_eq_some_iff.1 hg).1).trans hg, h2⟩⟩
theorem cell_new (w : World) (r : Int) : (w.alloc (Obj.cells #[Value.int .i32 r] 21)).cell? ⟨w.heap.size, 0, none⟩ = some (.int .i32 r) := by simp

set_option maxHeartbeats 2000000 in
theorem Runes_any (s : ByteArray) (w : World) (ht : Tabs w) (hm : s.size ≤ 9223372036854775807) (hroom : Room s.data.toList) :
    Calls Tryd.prog 32 #[.string s] w fun e w' => ∃ v, Below w.heap.size w w' ∧
      ((rs s.data.toList = none ∧ v = .slice none 0 0 ∧ e = .returned (.tuple #[v, .bool false])) ∨
       ∃ xs, rs s.data.toList = some xs ∧ e = .returned (.tuple #[v, .bool true]) ∧ Made w.heap.size w' v xs) := by
  obtain ⟨i0, hi, hz0, hz1, hz2⟩ := info_parts infoRune
  go_enter Tryd.func32, Tryd.ntmps32
  go_wp2
  go_loopw [0, 4] (fun t v wr => ∃ (m : ByteArray) (pre : List Int), t = .string m ∧ m.size + pre.length ≤ s.size ∧ Made w.heap.size wr v pre ∧ Remains s.data.toList m.data.toList pre ∧ Below w.heap.size w wr)
    (fun t _ _ => lenOf t)
  case atStart => exact ⟨s, [], rfl, by simp, World.ownsRow_nil _ _ _ _, left_start _, Below.refl _ _⟩
  case round =>
    obtain ⟨m, pre, rfl, hms, hown, hL, hbel⟩ := hrel
    have HL : Hid (Remains s.data.toList m.data.toList pre) := hL
    clear hL
    have htr : Tabs wr := ht.below hbel
    by_cases h0 : 0 < m.size
    · have hne := ne_of_size h0
      have hbd := rd_bd hne
      rw [size_length] at hbd
      have HNE : Hid (m.data.toList ≠ []) := hne
      clear hne
      generalize hr : rd m.data.toList = q at hbd
      obtain ⟨r, n⟩ := q
      have HR : Hid (rd m.data.toList = (r, n)) := hr
      clear hr
      simp only at hbd
      by_cases hn : n = 0
      · subst hn
        have HF : Hid (rs s.data.toList = none) := left_none HL.out HNE.out (by rw [HR.out])
        go_wp2_with (go_at_call 48; refine (readRune_any _ _ htr h0 (by omega)).mono ?_; rintro e w' ⟨rfl, n2, rfl⟩; rw [HR.out])
        go_ret2
        exact ⟨_, below_drewN hbel _, .inl ⟨HF.out, rfl, rfl⟩⟩
      have hn0 : ((n : Int) == 0) = false := beq_eq_false_iff_ne.2 (by omega)
      have hrm : pre.length + 1 ≤ 35184372088832 := hroom m.data.toList pre HL.out (by rw [size_length, size_length]; exact hms) HNE.out (by rw [HR.out]; exact hn)
      go_wp2_with (first
        | (go_at_call 48; refine (readRune_any _ _ htr h0 (by omega)).mono ?_; rintro e w' ⟨rfl, n2, rfl⟩; rw [HR.out])
        | (at_builtin; refine wpList_append_own _ rfl _ _ 65 rfl w.heap.size 21 i0 (.int .i32 0) 1 4 Tryd.underlying65 hi hz0 hz1 hz2 rfl (by decide) _ _ _ rfl (World.ownsRow.alloc (w := wr.drewN _) hown _) ⟨wr.heap.size, 0, none⟩ 1 1 [.int .i32 r] rfl rfl ?c1 ?c2 ?c3 ?c4 ?c5 ?_))
      case c1 =>
        intro j u hj
        match j, hj with
        | 0, hj => simp at hj; subst hj; exact cell_new (wr.drewN n2) r
      case c2 => intro u hu; simp at hu; subst hu; rfl
      case c3 => unfold maxLen; omega
      case c4 => omega
      case c5 => have := hbel.size; simp; omega
      intro v' w1 hown' hgrow _
      have hown2 : Made w.heap.size w1 v' (pre ++ [r]) := by unfold Made; simpa using hown'
      have hb1 : Below w.heap.size w w1 := ((below_drewN hbel n2).alloc (by simpa using hbel.size) _).grown hgrow (by have := hbel.size; simp; omega) (fun k hk => (World.ownsRow.lt hown k hk).1)
      clear hown' hgrow hown
      go_wp2
      go_roundw
      case rel => exact ⟨m.extract n m.size, pre ++ [r], rfl, by rw [extract_size]; simp; omega, hown2, rest_go HL.out HNE.out HR.out hn, hb1⟩
      case measure => simp only [lenOf]; rw [extract_size]; omega
    · have HN : Hid (m.data.toList = []) := nil_of_size h0
      have HF : Hid (rs s.data.toList = some pre) := left_end (by have := HL.out; rw [HN.out] at this; exact this)
      go_wp2
      go_ret2
      exact ⟨_, hbel, .inr ⟨pre, HF.out, rfl, hown⟩⟩
end Go.Proofs.YthjlihhknaelaaaDoor

/- Cut: what the seat's translation lacks is left out. -/
/- Words as runes in memory; least and alike. -/
namespace Go.Proofs.YthjlihhknaelaaaDoor
open Go.RowKit Nums Fm
set_option maxRecDepth 100000

/-- A row of runes that is read, in a block below E. -/
def RunesAt (E : Nat) (w : World) (v : Value) (xs : List Int) : Prop :=
  ∃ ad cap, v = .slice ad xs.length cap ∧ (0 < xs.length → ∃ g off, ad = some ⟨g, off, none⟩ ∧ g < E ∧ ∀ i x, xs[i]? = some x → w.cell? ⟨g, off + i, none⟩ = some (.int .i32 x))
theorem RunesAt.below {E : Nat} {w w' : World} {v : Value} {xs : List Int} (h : RunesAt E w v xs) (hb : Below E w w') : RunesAt E w' v xs := by
  obtain ⟨ad, cap, rfl, hc⟩ := h
  refine ⟨ad, cap, rfl, fun h0 => ?_⟩
  obtain ⟨g, off, rfl, hg, hx⟩ := hc h0
  exact ⟨g, off, rfl, hg, fun i x hi => (hb.cell (p := ⟨g, off + i, none⟩) hg).trans (hx i x hi)⟩
theorem RunesAt.mono {E E' : Nat} {w : World} {v : Value} {xs : List Int} (h : RunesAt E w v xs) (he : E ≤ E') : RunesAt E' w v xs := by
  obtain ⟨ad, cap, rfl, hc⟩ := h
  refine ⟨ad, cap, rfl, fun h0 => ?_⟩
  obtain ⟨g, off, rfl, hg, hx⟩ := hc h0
  exact ⟨g, off, rfl, by omega, hx⟩
/-- An entry's two cells. -/
structure EntAt (E : Nat) (w : World) (g o : Nat) (v : Value) (e : En) : Prop where
  c0 : w.cell? ⟨g, o, none⟩ = some v
  c1 : w.cell? ⟨g, o + 1, none⟩ = some (.int .i64 e.2)
  rn : RunesAt E w v e.1
/-- A row of entries that is read, all in blocks below E. -/
def ERow (E : Nat) (w : World) (v : Value) (l : List En) : Prop :=
  ∃ ad cap, v = .slice ad l.length cap ∧ l.length ≤ cap ∧ (0 < l.length → ∃ g off, ad = some ⟨g, off, none⟩ ∧ g < E ∧ ∀ i e, l[i]? = some e → ∃ u, EntAt E w g (off + i * 2) u e)
theorem EntAt.below {E : Nat} {w w' : World} {g o : Nat} {v : Value} {e : En} (h : EntAt E w g o v e) (hg : g < E) (hb : Below E w w') : EntAt E w' g o v e :=
  ⟨(hb.cell (p := ⟨g, o, none⟩) hg).trans h.c0, (hb.cell (p := ⟨g, o + 1, none⟩) hg).trans h.c1, h.rn.below hb⟩
theorem ERow.below {E : Nat} {w w' : World} {v : Value} {l : List En} (h : ERow E w v l) (hb : Below E w w') : ERow E w' v l := by
  obtain ⟨ad, cap, rfl, h1, hc⟩ := h
  refine ⟨ad, cap, rfl, h1, fun h0 => ?_⟩
  obtain ⟨g, off, rfl, hg, hx⟩ := hc h0
  refine ⟨g, off, rfl, hg, fun i e hi => ?_⟩
  obtain ⟨u, hu⟩ := hx i e hi
  exact ⟨u, hu.below hg hb⟩
theorem ERow.at {E : Nat} {w : World} {ad : Option Addr} {n cap : Nat} {l : List En} (h : ERow E w (.slice ad n cap) l) (h0 : 0 < n) : ∃ g off, ad = some ⟨g, off, none⟩ ∧ g < E ∧ n ≤ cap ∧ ∀ i e, l[i]? = some e → ∃ u, EntAt E w g (off + i * 2) u e := by
  obtain ⟨ad', cap', e, h1, hc⟩ := h
  simp only [Value.slice.injEq] at e
  obtain ⟨rfl, h2, rfl⟩ := e
  obtain ⟨g, off, h3, h4, h5⟩ := hc (by omega)
  exact ⟨g, off, h3, h4, by omega, h5⟩
theorem ERow.form {E : Nat} {w : World} {v : Value} {l : List En} (h : ERow E w v l) : ∃ ad cap, v = .slice ad l.length cap ∧ l.length ≤ cap := by
  obtain ⟨ad, cap, e, h1, _⟩ := h; exact ⟨ad, cap, e, h1⟩
theorem leastF_snoc {l : List En} {k : Nat} {e : En} (h : l[k]? = some e) (m : Int) : leastF m (l.take (k + 1)) = if e.2 < leastF m (l.take k) then e.2 else leastF m (l.take k) := by
  have key : ∀ (l : List En) (m : Int) (e : En), leastF m (l ++ [e]) = if e.2 < leastF m l then e.2 else leastF m l := by
    intro l
    induction l with
    | nil => intro m e; rfl
    | cons x r ih => intro m e; rw [List.cons_append, leastF, ih, leastF]
  rw [List.take_add_one, h]
  exact key _ _ _

theorem RunesAt.get {E : Nat} {w : World} {ad : Option Addr} {n cap : Nat} {xs : List Int} (h : RunesAt E w (.slice ad n cap) xs) {k : Nat} (hk : k < xs.length) : ∃ g off, ad = some ⟨g, off, none⟩ ∧ n = xs.length ∧ w.cell? ⟨g, off + k, none⟩ = some (.int .i32 ((xs.drop k).headD 0)) := by
  obtain ⟨ad', cap', e, hc⟩ := h
  simp only [Value.slice.injEq] at e
  obtain ⟨rfl, rfl, rfl⟩ := e
  obtain ⟨g, off, rfl, _, hx⟩ := hc (by omega)
  refine ⟨g, off, rfl, rfl, ?_⟩
  have := hx k xs[k] (List.getElem?_eq_getElem hk)
  rw [this, List.headD_eq_head?_getD, List.head?_drop, List.getElem?_eq_getElem hk]
  rfl
theorem lead_step {c : Int} {k j : Nat} {l : List En} {e : En} (h : l[j]? = some e) : lead c (cut k (l.drop j)) = if hd (e.1.drop k, e.2) = c then lead c (cut k (l.drop (j + 1))) + 1 else 0 := by
  obtain ⟨hj, rfl⟩ := List.getElem?_eq_some_iff.1 h
  rw [List.drop_eq_getElem_cons hj, cut_cons, lead]
end Go.Proofs.YthjlihhknaelaaaDoor

/- Cut: what the seat's translation lacks is left out. -/
/- fst.firstFault. -/
namespace Go.Proofs.YthjlihhknaelaaaDoor
open Go.RowKit Nums Pm
set_option maxRecDepth 100000

theorem drop_at (l : List Pr) (k : Nat) (x : Pr) (h : l[k]? = some x) : l.drop k = x :: l.drop (k + 1) := by
  obtain ⟨hk, rfl⟩ := List.getElem?_eq_some_iff.1 h
  exact List.drop_eq_getElem_cons hk
theorem PRow.form {w : World} {v : Value} {l : List Pr} (h : PRow w v l) : ∃ ad cap, v = .slice ad l.length cap := by
  obtain ⟨ad, cap, e, _⟩ := h; exact ⟨ad, cap, e⟩
def prevOk : Option Pr → Pr → Bool
  | none, _ => true
  | some p, x => lessB p.1 x.1
/-- What is wrong with a pair. -/
def oneF (p : Option Pr) (x : Pr) : Int := if wordB x.1.data.toList = false then 71 else if x.2 < 1 ∨ 1048576 < x.2 then 72 else if prevOk p x = false then 73 else 0
def faultF (p : Option Pr) : List Pr → Int
  | [] => 0
  | x :: r => if oneF p x = 0 then faultF (some x) r else oneF p x
def prevAt (l : List Pr) : Nat → Option Pr
  | 0 => none
  | k + 1 => l[k]?
theorem fault_bad {l : List Pr} {k : Nat} {x : Pr} (hx : l[k]? = some x) {e : Int} (h : oneF (prevAt l k) x = e) (he : e ≠ 0) : faultF (prevAt l k) (l.drop k) = e := by rw [drop_at l k x hx, faultF, h, if_neg he]
theorem fault_step {l : List Pr} {k : Nat} {x : Pr} (hx : l[k]? = some x) (h : oneF (prevAt l k) x = 0) : faultF (prevAt l k) (l.drop k) = faultF (prevAt l (k + 1)) (l.drop (k + 1)) := by
  rw [drop_at l k x hx, faultF, h, if_pos rfl, prevAt, hx]
theorem fault_end {l : List Pr} {k : Nat} (h : l.length ≤ k) : faultF (prevAt l k) (l.drop k) = 0 := by rw [List.drop_eq_nil_of_le h]; rfl
theorem one_word {p : Option Pr} {x : Pr} (h : wordB x.1.data.toList = false) : oneF p x = 71 := by simp [oneF, h]
theorem one_low {p : Option Pr} {x : Pr} (hw : wordB x.1.data.toList = true) (h : x.2 < 1) : oneF p x = 72 := by simp [oneF, h, hw]
theorem one_high {p : Option Pr} {x : Pr} (hw : wordB x.1.data.toList = true) (h : 1048576 < x.2) : oneF p x = 72 := by simp [oneF, h, hw]
theorem one_late {p : Option Pr} {x : Pr} (hw : wordB x.1.data.toList = true) (h1 : ¬ x.2 < 1) (h2 : ¬ 1048576 < x.2) (h : prevOk p x = false) : oneF p x = 73 := by simp [oneF, h, hw, h1, h2]
theorem one_ok {p : Option Pr} {x : Pr} (hw : wordB x.1.data.toList = true) (h1 : ¬ x.2 < 1) (h2 : ¬ 1048576 < x.2) (h : prevOk p x = true) : oneF p x = 0 := by simp [oneF, h, hw, h1, h2]
/-- Strings that can be. -/
def Sm (l : List Pr) : Prop := ∀ x ∈ l, x.1.size ≤ 9223372036854775807
theorem Sm.at {l : List Pr} (h : Sm l) {k : Nat} {x : Pr} (hx : l[k]? = some x) : x.1.size ≤ 9223372036854775807 := h x (List.mem_of_getElem? hx)

end Go.Proofs.YthjlihhknaelaaaDoor

/- Lists of pairs, and pairs, that came in: what the walks ask of them, out of their reading. -/
namespace Go.Proofs.YthjlihhknaelaaaDoor
open Go.ChangeShapes Go.WideShapes Go.ChangeAt Go.RowKit Go.Deep
set_option maxRecDepth 100000

theorem laidOut : laidOutB Tryd.prog = true := by kernel_rfl
theorem pairCells : Tryd.prog.cellsOf 39 = 2 := by kernel_rfl
theorem strCells : Tryd.prog.cellsOf 9 = 1 := by kernel_rfl
theorem intCells : Tryd.prog.cellsOf 3 = 1 := by kernel_rfl
def big {H : Type} (d : DataW H) : Nat := match d with
  | .slice elems spare => elems.length + spare.length
  | _ => 0
/-- The two cells of a pair that came in. -/
theorem pair_cells {H : Type} {enc : TypeId × Value → H} {W : World} {fuel : Nat} {cs : List Value} {x : DataW H × List MemPlace}
    (h : DataW.trod enc Tryd.prog W 0 (fun _ => true) true fuel 39 cs = some x) : ∃ p : Pr, cs = [.string p.1, .int .i64 p.2] ∧ p.1.size ≤ 9223372036854775807 := by
  obtain ⟨y0, y1, n, _, hl, g0, g1⟩ := trod_struct2 Tryd.underlying39 h
  rw [pairCells] at hl
  match cs, hl with
  | [v0, v1], _ =>
    simp [strCells, intCells] at g0 g1
    obtain ⟨s, e0, _, w0⟩ := DataW.trod_string Tryd.underlying9 g0
    obtain ⟨z, e1, _, w1⟩ := DataW.trod_int Tryd.underlying3 g1
    simp only [List.cons.injEq, and_true] at e0 e1
    subst e0 e1
    refine ⟨(s, z), rfl, ?_⟩
    have hw := w0
    unfold maxLen at hw
    exact hw
theorem pairs_in {H : Type} {enc : TypeId × Value → H} {W : World} {base : Nat} {v : Value} {d : DataW H} {p : List MemPlace}
    (hok : Value.okWide Tryd.prog W .any base 22 v) (h : DataW.Trod enc Tryd.prog W 0 (fun _ => true) true 22 v d p) : ∃ L : List Pr, PRow W v L ∧ Sm L ∧ L.length ≤ 9223372036854775807 ∧ L.length ≤ big d := by
  obtain ⟨a0, len, cap, rfl⟩ := okWide_slice Tryd.underlying22 hok
  obtain ⟨fuel, hf⟩ := h
  rcases open_slice Tryd.underlying22 hf with ⟨hcs, hx⟩ | ⟨a, len', cap', m, n, D, Pl, hcs, _, hl, hm, hmm, hx, hel⟩
  · simp [Value.cells] at hcs
    obtain ⟨rfl, rfl, rfl⟩ := hcs
    exact ⟨[], PRow.nil W, (fun x hx => absurd hx List.not_mem_nil), by simp, by simp⟩
  · simp [Value.cells] at hcs
    obtain ⟨rfl, rfl, rfl⟩ := hcs
    have hlm : len ≤ m := by rw [hmm]; split <;> omega
    have each : ∀ i, i < m → ∃ o : Pr, o.1.size ≤ 9223372036854775807 ∧ W.cell? (a.add (i * 2)) = some (.string o.1) ∧ W.cell? (a.add (i * 2 + 1)) = some (.int .i64 o.2) := by
      intro i hi
      obtain ⟨cs', h1, h2⟩ := hel i hi
      rw [pairCells] at h1
      obtain ⟨_, hlen, hcell⟩ := World.cells?_some h1
      obtain ⟨q, rfl, hq⟩ := pair_cells h2
      have c0 := hcell 0 (by simp)
      have c1 := hcell 1 (by simp)
      rw [add_add] at c0 c1
      exact ⟨q, hq, by simpa using c0, by simpa using c1⟩
    have hch : ∃ f : Nat → Pr, ∀ i, i < m → (f i).1.size ≤ 9223372036854775807 ∧ W.cell? (a.add (i * 2)) = some (.string (f i).1) ∧ W.cell? (a.add (i * 2 + 1)) = some (.int .i64 (f i).2) :=
      ⟨fun i => if hi : i < m then Classical.choose (each i hi) else (ByteArray.empty, 0), fun i hi => by
        simp only [dif_pos hi]
        exact Classical.choose_spec (each i hi)⟩
    obtain ⟨f, hfe⟩ := hch
    have hget : ∀ i o, ((List.range len).map f)[i]? = some o → i < len ∧ o = f i := fun i o hi => by
      rw [List.getElem?_map] at hi
      have hil : i < len := by
        cases hr : (List.range len)[i]? with
        | none => rw [hr] at hi; cases hi
        | some j => have := (List.getElem?_eq_some_iff.1 hr).1; simpa using this
      rw [List.getElem?_range hil] at hi
      simp only [Option.map_some, Option.some.injEq] at hi
      exact ⟨hil, hi.symm⟩
    refine ⟨(List.range len).map f, ⟨some a, cap, by simp, fun h0 => ?_⟩, ?_, by unfold maxLen at hm; simp; omega, ?_⟩
    · have h0' : 0 < len := by simpa using h0
      obtain ⟨b, off, rfl⟩ : ∃ b off, a = ⟨b, off, none⟩ := by
        obtain ⟨_, c0, _⟩ := hfe 0 (by omega)
        obtain ⟨b, off, sp⟩ := a
        cases sp with
        | none => exact ⟨b, off, rfl⟩
        | some s => exfalso; revert c0; unfold Addr.add World.cell?; split <;> simp
      have hadd : ∀ j, (⟨b, off, none⟩ : Addr).add j = ⟨b, off + j, none⟩ := fun j => by unfold Addr.add; split <;> simp_all
      refine ⟨b, off, rfl, ?_, fun i o hi => ?_⟩
      · obtain ⟨_, c0, _⟩ := hfe 0 (by omega)
        rw [hadd] at c0
        exact lt_of_cell c0
      · obtain ⟨hil, rfl⟩ := hget i o hi
        obtain ⟨q1, c0, c1⟩ := hfe i (by omega)
        rw [hadd] at c0 c1
        exact ⟨c0, by simpa [Nat.add_assoc] using c1⟩
    · intro x hx
      obtain ⟨i, hi⟩ := List.mem_iff_getElem?.1 hx
      obtain ⟨hil, rfl⟩ := hget i x hi
      exact (hfe i (by omega)).1
    · simp only [Prod.mk.injEq] at hx
      obtain ⟨rfl, _⟩ := hx
      simp [big]
theorem pair_in {H : Type} {enc : TypeId × Value → H} {W : World} {base : Nat} {v : Value} {d : DataW H} {p : List MemPlace}
    (hok : Value.okWide Tryd.prog W .any base 39 v) (h : DataW.Trod enc Tryd.prog W 0 (fun _ => true) true 39 v d p) : ∃ q : Pr, v = .agg #[.string q.1, .int .i64 q.2] ∧ q.1.size ≤ 9223372036854775807 := by
  obtain ⟨cs, rfl, hsz⟩ := okWide_struct Tryd.underlying39 hok
  obtain ⟨fuel, hf⟩ := h
  obtain ⟨q, e, hq⟩ := pair_cells hf
  refine ⟨q, ?_, hq⟩
  have e2 : cs.toList = [.string q.1, .int .i64 q.2] := by simpa [Value.cells] using e
  have e3 : cs = #[.string q.1, .int .i64 q.2] := Array.toList_inj.1 e2
  rw [e3]
end Go.Proofs.YthjlihhknaelaaaDoor
