/- Maps of the builder, whose keys are structs: what a block holds, as a list of keys and numbers; what a look-up and a store of a new key do. -/
import Derived.Test.YthfngcpcccbnpaaDoorJ3
import Derived.DeepKeys4
import Derived.Maps.Keyed
namespace Go.Proofs.YthfngcpcccbnpaaDoor
open Go.RowKit Nums Fm Go.Maps Go.MapKept
set_option maxRecDepth 100000

theorem laidOutF : laidOutB Tryd.prog = true := by kernel_rfl
theorem keyedK : Keyed Tryd.prog 153 := Keyed.of_law (deep_law_laid laidOutF (m := 3) (by omega) (of_decide_eq_true (by kernel_rfl)) (by kernel_rfl) (by kernel_rfl))
theorem keyedL : Keyed Tryd.prog 171 := Keyed.of_law (deep_law_laid laidOutF (m := 4) (by omega) (of_decide_eq_true (by kernel_rfl)) (by kernel_rfl) (by kernel_rfl))
/-- A state's key: final, out, the number of its arcs. -/
abbrev SK := Bool × Int × Nat
/-- A list's key: the number of those ahead, the last arc. -/
abbrev LK := Nat × Arc
def valK (x : SK) : Value := .agg #[.bool x.1, .int .i64 x.2.1, .int .i64 x.2.2]
def valL (x : LK) : Value := .agg #[.int .i64 x.1, .int .i32 x.2.label, .int .i64 x.2.out, .int .i64 x.2.to]
/-- Numbers that fit. -/
def Fits64 (n : Int) : Prop := -9223372036854775808 ≤ n ∧ n ≤ 9223372036854775807
def Fits32 (n : Int) : Prop := -2147483648 ≤ n ∧ n ≤ 2147483647
theorem wf64 {n : Int} (h : Fits64 n) : (Lit.int .i64 n).wf = true := by
  obtain ⟨h1, h2⟩ := h
  simp [Lit.wf, IntKind.min, IntKind.max, IntKind.bits, IntKind.signed]
  omega
theorem wf32 {n : Int} (h : Fits32 n) : (Lit.int .i32 n).wf = true := by
  obtain ⟨h1, h2⟩ := h
  simp [Lit.wf, IntKind.min, IntKind.max, IntKind.bits, IntKind.signed]
  omega
theorem typesF : Tryd.prog.types.size + 1 = 4 + (Tryd.prog.types.size - 3) := by
  have : 3 ≤ Tryd.prog.types.size := of_decide_eq_true (by kernel_rfl)
  omega
theorem keyTypeK : Tryd.prog.keyType 153 = true := by kernel_rfl
theorem keyTypeL : Tryd.prog.keyType 171 = true := by kernel_rfl
theorem cellsK : Tryd.prog.cellsOf 153 = 3 := by kernel_rfl
theorem cellsL : Tryd.prog.cellsOf 171 = 4 := by kernel_rfl
theorem cellsArc : Tryd.prog.cellsOf 121 = 3 := by kernel_rfl
theorem cellsInt : Tryd.prog.cellsOf 3 = 1 := by kernel_rfl
theorem cellsBool : Tryd.prog.cellsOf 4 = 1 := by kernel_rfl
theorem cellsRune : Tryd.prog.cellsOf 21 = 1 := by kernel_rfl
theorem lits_int (d : Nat) {n : Int} (h : (Lit.int .i64 n).wf = true) : Tryd.prog.keyLits (d + 1) 3 [.int .i64 n] = some [.int .i64 n] := by
  unfold Program.keyLits
  rw [Tryd.underlying3]
  exact if_pos ⟨rfl, h⟩
theorem lits_rune (d : Nat) {n : Int} (h : (Lit.int .i32 n).wf = true) : Tryd.prog.keyLits (d + 1) 21 [.int .i32 n] = some [.int .i32 n] := by
  unfold Program.keyLits
  rw [Tryd.underlying21]
  exact if_pos ⟨rfl, h⟩
theorem lits_bool (d : Nat) (b : Bool) : Tryd.prog.keyLits (d + 1) 4 [.bool b] = some [.bool b] := by
  unfold Program.keyLits
  rw [Tryd.underlying4]
theorem lits_A (d : Nat) {a b c : Int} (h1 : (Lit.int .i32 a).wf = true) (h2 : (Lit.int .i64 b).wf = true) (h3 : (Lit.int .i64 c).wf = true) : Tryd.prog.keyLits (d + 2) 121 [.int .i32 a, .int .i64 b, .int .i64 c] = some [.int .i32 a, .int .i64 b, .int .i64 c] := by
  unfold Program.keyLits
  rw [Tryd.underlying121]
  refine (if_pos ⟨cellsArc.symm, by simp⟩).trans ?_
  simp only [List.mapM_cons, List.mapM_nil, cellsRune, cellsInt, List.drop_zero, List.drop_succ_cons, List.take_succ_cons, List.take_zero, lits_rune d h1, lits_int d h2, lits_int d h3]
  rfl
theorem key_K (x : SK) (h1 : Fits64 x.2.1) (h2 : Fits64 x.2.2) : ∃ l, keyOf Tryd.prog 153 (valK x) = some l := by
  have e1 := wf64 h1
  have e2 := wf64 h2
  obtain ⟨d, hd⟩ : ∃ d, Tryd.prog.types.size + 1 = d + 4 := ⟨Tryd.prog.types.size - 3, by have := typesF; omega⟩
  have hl : Tryd.prog.keyLits (d + 4) 153 [.bool x.1, .int .i64 x.2.1, .int .i64 x.2.2] = some [.bool x.1, .int .i64 x.2.1, .int .i64 x.2.2] := by
    unfold Program.keyLits
    rw [Tryd.underlying153]
    refine (if_pos ⟨cellsK.symm, by simp⟩).trans ?_
    simp only [List.mapM_cons, List.mapM_nil, cellsBool, cellsInt, List.drop_zero, List.drop_succ_cons, List.take_succ_cons, List.take_zero, lits_bool (d + 2), lits_int (d + 2) e1, lits_int (d + 2) e2]
    rfl
  have hf : (valK x).formed Tryd.prog 153 = true := by
    unfold valK Value.formed
    simp only [Tryd.underlying153, cellsK]
    rfl
  unfold keyOf
  rw [Tryd.underlying153]
  simp only [keyTypeK, hf, Bool.and_self, if_true]
  rw [hd, show (valK x).cells.toList = [.bool x.1, .int .i64 x.2.1, .int .i64 x.2.2] from rfl, hl]
  exact ⟨_, rfl⟩
theorem key_L (x : LK) (h0 : Fits64 x.1) (h1 : Fits32 x.2.label) (h2 : Fits64 x.2.out) (h3 : Fits64 x.2.to) : ∃ l, keyOf Tryd.prog 171 (valL x) = some l := by
  have e0 := wf64 h0
  have e1 := wf32 h1
  have e2 := wf64 h2
  have e3 := wf64 h3
  obtain ⟨d, hd⟩ : ∃ d, Tryd.prog.types.size + 1 = d + 4 := ⟨Tryd.prog.types.size - 3, by have := typesF; omega⟩
  have hl : Tryd.prog.keyLits (d + 4) 171 [.int .i64 x.1, .int .i32 x.2.label, .int .i64 x.2.out, .int .i64 x.2.to] = some [.int .i64 x.1, .int .i32 x.2.label, .int .i64 x.2.out, .int .i64 x.2.to] := by
    unfold Program.keyLits
    rw [Tryd.underlying171]
    refine (if_pos ⟨cellsL.symm, by simp⟩).trans ?_
    simp only [List.mapM_cons, List.mapM_nil, cellsArc, cellsInt, List.drop_zero, List.drop_succ_cons, List.take_succ_cons, List.take_zero, lits_int (d + 2) e0, lits_A (d + 1) e1 e2 e3]
    rfl
  have hf : (valL x).formed Tryd.prog 171 = true := by
    unfold valL Value.formed
    simp only [Tryd.underlying171, cellsL]
    rfl
  unfold keyOf
  rw [Tryd.underlying171]
  simp only [keyTypeL, hf, Bool.and_self, if_true]
  rw [hd, show (valL x).cells.toList = [.int .i64 x.1, .int .i32 x.2.label, .int .i64 x.2.out, .int .i64 x.2.to] from rfl, hl]
  exact ⟨_, rfl⟩

/-- Block b is a map whose entries are m, in their order. -/
def KMapAt {κ : Type} (kt : TypeId) (K : κ → Value) (w : World) (b : Nat) (m : List (κ × Nat)) : Prop :=
  ∃ es clock, w.heap[b]? = some (.map es clock) ∧ es.toList.map (fun e => (e.key, e.val)) = m.map (fun p => (K p.1, Value.int .i64 p.2)) ∧ ∀ p ∈ m, ∃ l, keyOf Tryd.prog kt (K p.1) = some l
section
variable {κ : Type} {kt t et : TypeId} {K : κ → Value} {w w' : World} {b : Nat} {m : List (κ × Nat)}
theorem KMapAt.same (h : KMapAt kt K w b m) (e : w'.heap[b]? = w.heap[b]?) : KMapAt kt K w' b m := by
  obtain ⟨es, clock, hb, r⟩ := h; exact ⟨es, clock, e.trans hb, r⟩
theorem KMapAt.lt (h : KMapAt kt K w b m) : b < w.heap.size := by
  obtain ⟨es, clock, hb, _⟩ := h; exact (Array.getElem?_eq_some_iff.1 hb).1
theorem KMapAt.obj (h : KMapAt kt K w b m) : ∃ es clock, w.heap[b]? = some (.map es clock) := by
  obtain ⟨es, clock, hb, _⟩ := h; exact ⟨es, clock, hb⟩
theorem KMapAt.new (w : World) : KMapAt kt K (w.alloc (.map #[] 0)) w.heap.size [] := ⟨#[], 0, (MapKept.heap_alloc w _).1, rfl, by simp⟩
theorem KMapAt.entry {es : Array MapEntry} (h : es.toList.map (fun e => (e.key, e.val)) = m.map (fun p => (K p.1, Value.int .i64 p.2))) {j : Nat} {e : MapEntry} (he : es.toList[j]? = some e) : ∃ p, m[j]? = some p ∧ e.key = K p.1 ∧ e.val = .int .i64 p.2 := by
  have h2 := congrArg (·[j]?) h
  simp only [List.getElem?_map, he, Option.map_some] at h2
  cases hm : m[j]? with
  | none => rw [hm] at h2; simp at h2
  | some p =>
    rw [hm] at h2
    simp only [Option.map_some, Option.some.injEq, Prod.mk.injEq] at h2
    exact ⟨p, rfl, h2.1, h2.2⟩
theorem KMapAt.keyed {es : Array MapEntry} (h : es.toList.map (fun e => (e.key, e.val)) = m.map (fun p => (K p.1, Value.int .i64 p.2))) (hk : ∀ p ∈ m, ∃ l, keyOf Tryd.prog kt (K p.1) = some l) : ∀ e ∈ es.toList, ∃ l, keyOf Tryd.prog kt e.key = some l := by
  intro e he
  obtain ⟨j, hj⟩ := List.mem_iff_getElem?.1 he
  obtain ⟨p, hp, h1, _⟩ := KMapAt.entry h hj
  rw [h1]
  exact hk p (List.mem_of_getElem? hp)
/-- 'v, ok := m[x]'. -/
theorem KMapAt.look (h : KMapAt kt K w b m) (hK : Keyed Tryd.prog kt) (ht : Tryd.prog.underlying t = some (.map kt 3)) {x : κ} {l : Lit} (hx : keyOf Tryd.prog kt (K x) = some l) (hinj : ∀ y, K y = K x → y = x) :
    ((∀ n, (x, n) ∉ m) ∧ (Instr.lookup t (.map (some b)) (K x) true).run Tryd.prog w = .ok (.tuple #[.int .i64 0, .bool false]) w) ∨
    ∃ n, (x, n) ∈ m ∧ (Instr.lookup t (.map (some b)) (K x) true).run Tryd.prog w = .ok (.tuple #[.int .i64 n, .bool true]) w := by
  obtain ⟨es, clock, hb, hm, hk⟩ := h
  have hz : (zeroValue 3).run Tryd.prog w = .ok (.int .i64 0) w := by kernel_rfl
  rcases hK.find w hx es.toList (KMapAt.keyed hm hk) with ⟨h1, h2⟩ | ⟨j, e, h1, h2, h3⟩
  · refine .inl ⟨fun n hn => ?_, ?_⟩
    · obtain ⟨j, hj⟩ := List.mem_iff_getElem?.1 hn
      have h4 := congrArg (·[j]?) hm
      simp only [List.getElem?_map, hj, Option.map_some] at h4
      cases he : es.toList[j]? with
      | none => rw [he] at h4; simp at h4
      | some e =>
        rw [he] at h4
        simp only [Option.map_some, Option.some.injEq, Prod.mk.injEq] at h4
        exact h2 e (List.mem_of_getElem? he) h4.1
    · simp [Instr.lookup, run_underlying ht, MapKept.run_getObj_map hb, hK.check w _ hx, h1, hz, Result.andThen]
  · obtain ⟨p, hp, h4, h5⟩ := KMapAt.entry hm h2
    have hpx : p.1 = x := hinj _ (h4.symm.trans h3)
    refine .inr ⟨p.2, ?_, ?_⟩
    · rw [← hpx]; exact List.mem_of_getElem? hp
    · simp [Instr.lookup, run_underlying ht, MapKept.run_getObj_map hb, hK.check w _ hx, h1, h5, Result.andThen]
theorem KMapAt.look_new (h : KMapAt kt K w b m) (hK : Keyed Tryd.prog kt) (ht : Tryd.prog.underlying t = some (.map kt 3)) {x : κ} {l : Lit} (hx : keyOf Tryd.prog kt (K x) = some l) (hinj : ∀ y, K y = K x → y = x) (hn : ∀ n, (x, n) ∉ m) :
    (Instr.lookup t (.map (some b)) (K x) true).run Tryd.prog w = .ok (.tuple #[.int .i64 0, .bool false]) w := by
  rcases h.look hK ht hx hinj with ⟨_, h1⟩ | ⟨n, h1, _⟩
  · exact h1
  · exact absurd h1 (hn n)
theorem KMapAt.look_old (h : KMapAt kt K w b m) (hK : Keyed Tryd.prog kt) (ht : Tryd.prog.underlying t = some (.map kt 3)) {x : κ} {l : Lit} (hx : keyOf Tryd.prog kt (K x) = some l) (hinj : ∀ y, K y = K x → y = x) {n : Nat} (hn : (x, n) ∈ m) (hu : ∀ n', (x, n') ∈ m → n' = n) :
    (Instr.lookup t (.map (some b)) (K x) true).run Tryd.prog w = .ok (.tuple #[.int .i64 n, .bool true]) w := by
  rcases h.look hK ht hx hinj with ⟨h1, _⟩ | ⟨n', h1, h2⟩
  · exact absurd hn (h1 n)
  · rw [hu n' h1] at h2; exact h2
/-- 'm[x] = n', x new. -/
theorem KMapAt.store (h : KMapAt kt K w b m) (hK : Keyed Tryd.prog kt) (ht : Tryd.prog.underlying t = some (.map kt 3)) {x : κ} {l : Lit} (hx : keyOf Tryd.prog kt (K x) = some l) (hinj : ∀ y, K y = K x → y = x) (hnew : ∀ n, (x, n) ∉ m) (n : Nat) :
    ∃ w', (Instr.mapUpdate t (.map (some b)) (K x) (.int .i64 n)).run Tryd.prog w = .ok () w' ∧ KMapAt kt K w' b (m ++ [(x, n)]) ∧ w'.os = w.os ∧ w'.tape = w.tape ∧ w'.output = w.output ∧ w'.heap.size = w.heap.size ∧ ∀ k, k ≠ b → w'.heap[k]? = w.heap[k]? := by
  obtain ⟨es, clock, hb, hm, hk⟩ := h
  rcases hK.find w hx es.toList (KMapAt.keyed hm hk) with ⟨h1, h2⟩ | ⟨j, e, h1, h2, h3⟩
  · refine ⟨{ w with heap := w.heap.setIfInBounds b (.map (es.push ⟨K x, .int .i64 n, clock⟩) (clock + 1)) }, ?_, ⟨es.push ⟨K x, .int .i64 n, clock⟩, clock + 1, (heap_set hb).1, by simp [hm], fun p hp => ?_⟩, rfl, rfl, rfl, by simp, fun i hi => (heap_set hb).2 i hi⟩
    · simp [Instr.mapUpdate, run_underlying ht, MapKept.run_getObj_map hb, hK.check w _ hx, h1, MapKept.run_setObj_map _ hb, Result.andThen]
    · rcases List.mem_append.1 hp with hp | hp
      · exact hk p hp
      · rw [List.mem_singleton.1 hp]; exact ⟨l, hx⟩
  · obtain ⟨p, hp, h4, h5⟩ := KMapAt.entry hm h2
    have hpx : p.1 = x := hinj _ (h4.symm.trans h3)
    exact absurd (show (x, p.2) ∈ m by rw [← hpx]; exact List.mem_of_getElem? hp) (hnew p.2)
theorem KMapAt.len (h : KMapAt kt K w b m) (ht : Tryd.prog.underlying t = some (.map kt 3)) (ty : TypeId) : (Builtin.len_ #[t] ty #[.map (some b)]).run Tryd.prog w = .ok (.int .i64 (m.length : Int)) w := by
  obtain ⟨es, clock, hb, hm, _⟩ := h
  have hl : es.size = m.length := by simpa using congrArg List.length hm
  simp [Builtin.len_, run_underlying ht, MapKept.run_getObj_map hb, Result.andThen, goInt, hl]
end
theorem valK_inj {x y : SK} (h : valK y = valK x) : y = x := by
  obtain ⟨a, b, c⟩ := x
  obtain ⟨a', b', c'⟩ := y
  simp [valK] at h
  obtain ⟨h1, h2, h3⟩ := h
  subst h1; subst h2; rw [Int.ofNat_inj.1 h3]
theorem valL_inj {x y : LK} (h : valL y = valL x) : y = x := by
  obtain ⟨a, b, c, d⟩ := x
  obtain ⟨a', b', c', d'⟩ := y
  simp [valL] at h
  obtain ⟨h1, h2, h3, h4⟩ := h
  subst h2; subst h3; rw [Int.ofNat_inj.1 h1, Int.ofNat_inj.1 h4]
end Go.Proofs.YthfngcpcccbnpaaDoor
