/- Texts that were written apart, joined. -/
import Derived.Test.YthecngkdmnadoaaGreatG05
import Derived.Maps.AppendAt
import Derived.Deep.RegionHeld3
/- put: a value laid down in a map of maps. -/
namespace Go.Proofs.YthecngkdmnadoaaGreat
open Go.RowKit
set_option maxRecDepth 100000

theorem MapAt.conv {α β : Type} {q : IntKind} {f : α → Value} {g : β → Value} {w : World} {b : Nat} {m : List (Int × α)} {m' : List (Int × β)} (h : MapAt q f w b m) (e : m'.map (fun p => (p.1, g p.2)) = m.map (fun p => (p.1, f p.2))) : MapAt q g w b m' := by
  obtain ⟨es, clock, hb, hm, hn, hs⟩ := h
  have ek : keys m' = keys m := by
    have := congrArg (List.map (·.1)) e
    simpa [keys, List.map_map, Function.comp_def] using this
  refine ⟨es, clock, hb, hm.trans ?_, ek ▸ hn, hs⟩
  have := congrArg (List.map fun p : Int × Value => (Value.int q p.1, p.2)) e
  simpa [List.map_map, Function.comp_def] using this.symm
theorem mput_map {α β : Type} (g : α → β) (k : Int) (u : α) (m : List (Int × α)) : (mput k u m).map (fun p => (p.1, g p.2)) = mput k (g u) (m.map (fun p => (p.1, g p.2))) := by
  induction m with
  | nil => rfl
  | cons p r ih =>
    by_cases e : p.1 = k
    · simp [mput, e]
    · simp [mput, e, ih]

theorem wpList_update {α : Type} {q : IntKind} {f : α → Value} {w : World} {b : Nat} {M : List (Int × α)} {ops : Array Oper} {rest : List Oper} {o : Oper} {a : Act} {Q : Exit → Act → World → Prop}
    (h : MapAt q f w b M) (hg : o.guard = none) (m x v : Operand) (t kt et : TypeId) (hop : o.op = Op.mapUpdate t m x v) (ht : Tryz.prog.underlying t = some (.map kt et)) (hk : Tryz.prog.underlying kt = some (.int q)) (k : Int) (u : α)
    (hm : a.eval m = .map (some b)) (hx : a.eval x = .int q k) (hv : a.eval v = f u) (hK : ∀ w', MapAt q f w' b (mput k u M) → One b w w' → wpList Tryz.prog ops Q rest (a.put o.dst undef) w') : wpList Tryz.prog ops Q (o :: rest) a w := by
  refine wpList_plain hg fun K' hK' => ?_
  obtain ⟨w', hrun, r1, r2⟩ := h.store ht hk k u
  unfold Oper.wp
  simp [execOp, hop, hm, hx, hv, hrun, Result.andThen]
  exact hK' _ _ (hK w' r1 r2)

section
variable {α : Type}
/-- A map of maps with v laid down at a, n; nb: the new inner map's block, if one is made. -/
def putM (a n : Int) (v : α) (nb : Nat) (M : List (Int × Nat × List (Int × α))) : List (Int × Nat × List (Int × α)) :=
  mput a (match mget a M with | some x => (x.1, mput n v x.2) | none => (nb, [(n, v)])) M
/-- A map of maps in memory. -/
def Two (f : α → Value) (w : World) (mb : Nat) (M : List (Int × Nat × List (Int × α))) : Prop := MapAt .u64 inV w mb M ∧ (∀ p ∈ M, MapAt .i64 f w p.2.1 p.2.2) ∧ (mb :: M.map (·.2.1)).Nodup
/-- What put does. -/
def PutPost (f : α → Value) (a n : Int) (v : α) (mb : Nat) (M : List (Int × Nat × List (Int × α))) (w w' : World) : Prop :=
  ∃ nb, Two f w' mb (putM a n v nb M) ∧ (mget a M = none → w.heap.size ≤ nb) ∧ nb < w'.heap.size ∧ w'.os = w.os ∧ w'.tape = w.tape ∧ w'.output = w.output ∧ w.heap.size ≤ w'.heap.size ∧
    ∀ k, k < w.heap.size → k ≠ mb → (∀ x, mget a M = some x → k ≠ x.1) → w'.heap[k]? = w.heap[k]?
theorem inner_ne {mb : Nat} {M : List (Int × Nat × List (Int × α))} (hn : (mb :: M.map (·.2.1)).Nodup) {p : Int × Nat × List (Int × α)} (hp : p ∈ M) : p.2.1 ≠ mb := fun e => (List.nodup_cons.1 hn).1 (e ▸ List.mem_map.2 ⟨p, hp, rfl⟩)
theorem inner_inj {M : List (Int × Nat × List (Int × α))} (hn : (M.map (·.2.1)).Nodup) {p p' : Int × Nat × List (Int × α)} (hp : p ∈ M) (hp' : p' ∈ M) (e : p.2.1 = p'.2.1) : p = p' := by
  induction M with
  | nil => cases hp
  | cons x r ih =>
    obtain ⟨h1, h2⟩ := List.nodup_cons.1 hn
    rcases List.mem_cons.1 hp with e1 | hp <;> rcases List.mem_cons.1 hp' with e2 | hp'
    · rw [e1, e2]
    · exact absurd (List.mem_map.2 ⟨p', hp', by rw [← e, e1]⟩) h1
    · exact absurd (List.mem_map.2 ⟨p, hp, by rw [e, e2]⟩) h1
    · exact ih h2 hp hp'
theorem mput_blocks {a : Int} {x y : Nat × List (Int × α)} {M : List (Int × Nat × List (Int × α))} (h : mget a M = some x) (e : y.1 = x.1) : (mput a y M).map (·.2.1) = M.map (·.2.1) := by
  induction M with
  | nil => simp [mget] at h
  | cons p r ih =>
    by_cases hp : p.1 = a
    · rw [mget, if_pos hp] at h
      have := Option.some.inj h
      simp [mput, hp, e, ← this]
    · rw [mget, if_neg hp] at h
      simp [mput, hp, ih h]
theorem mem_mput_ne {a : Int} {y : α} {M : List (Int × α)} (hn : (keys M).Nodup) {p : Int × α} (hp : p ∈ mput a y M) : p = (a, y) ∨ (p ∈ M ∧ p.1 ≠ a) := by
  rcases mem_mput hp with h | h
  · exact .inl h
  · by_cases e : p.1 = a
    · have h1 := mget_of_mem (nodup_mput (k := a) (v := y) hn) hp
      rw [mget_mput, if_pos e] at h1
      exact .inl (Prod.ext e (Option.some.inj h1).symm)
    · exact .inr ⟨h, e⟩
/-- The inner map is there already. -/
theorem put_there {f : α → Value} {a n : Int} {v : α} {mb : Nat} {M : List (Int × Nat × List (Int × α))} {w w0 w' : World} {x : Nat × List (Int × α)} (h : Two f w mb M) (hx : mget a M = some x) (h0 : Below w.heap.size w w0) (hi : MapAt .i64 f w' x.1 (mput n v x.2)) (ho : One x.1 w0 w') : PutPost f a n v mb M w w' := by
  obtain ⟨h1, h2, h3⟩ := h
  have hm := mem_keys_of_mget hx
  have hlt := h1.lt
  have e : ∀ k, k < w.heap.size → k ≠ x.1 → w'.heap[k]? = w.heap[k]? := fun k hk hne => (ho.block k hne).trans (h0.block k hk)
  refine ⟨0, ⟨?_, fun p hp => ?_, ?_⟩, (fun h => by rw [h] at hx; cases hx), ?_, ho.os.trans h0.os, ho.tape.trans h0.tape, ho.output.trans h0.output, by rw [ho.size]; exact h0.size, fun k hk _ hne => e k hk (hne x hx)⟩
  · refine (h1.same (e mb hlt (inner_ne h3 hm).symm)).conv ?_
    rw [putM, hx, mput_map]
    show mput a (inV x) _ = _
    clear h2 h3 hm e h1
    induction M with
    | nil => simp [mget] at hx
    | cons p r ih =>
      by_cases hp : p.1 = a
      · rw [mget, if_pos hp] at hx
        have := Option.some.inj hx
        simp [mput, hp, ← this]
      · rw [mget, if_neg hp] at hx
        simp [mput, hp, ih hx]
  · rw [putM, hx] at hp
    rcases mem_mput_ne h1.nodup hp with rfl | ⟨hp, hne⟩
    · exact hi
    · refine (h2 p hp).same (e _ (h2 p hp).lt fun e1 => hne ?_)
      have := inner_inj (List.nodup_cons.1 h3).2 hp hm e1
      rw [this]
  · rw [putM, hx]
    show (mb :: (mput a (x.1, mput n v x.2) M).map (·.2.1)).Nodup
    rw [mput_blocks (y := (x.1, mput n v x.2)) hx rfl]; exact h3
  · have := h0.size
    have := ho.size
    omega
/-- A new inner map is made. -/
theorem put_new {f : α → Value} {a n : Int} {v : α} {mb : Nat} {M : List (Int × Nat × List (Int × α))} {w w0 w1 w' : World} {nb : Nat} (h : Two f w mb M) (hx : mget a M = none) (h0 : Below w.heap.size w w0) (hnb : w.heap.size ≤ nb) (hnb' : nb < w0.heap.size)
    (h1 : MapAt .u64 inV w1 mb (mput a (nb, ([] : List (Int × α))) M)) (ho1 : One mb w0 w1) (hi : MapAt .i64 f w' nb [(n, v)]) (ho : One nb w1 w') : PutPost f a n v mb M w w' := by
  obtain ⟨k1, k2, k3⟩ := h
  have hlt := k1.lt
  have e : ∀ k, k < w.heap.size → k ≠ mb → w'.heap[k]? = w.heap[k]? := fun k hk hne => (ho.block k (by omega)).trans ((ho1.block k hne).trans (h0.block k hk))
  have hs := h0.size
  have hs1 := ho1.size
  have hs2 := ho.size
  refine ⟨nb, ⟨?_, fun p hp => ?_, ?_⟩, fun _ => hnb, by omega, ho.os.trans (ho1.os.trans h0.os), ho.tape.trans (ho1.tape.trans h0.tape), ho.output.trans (ho1.output.trans h0.output), by omega, fun k hk hne _ => e k hk hne⟩
  · refine (h1.same (ho.block mb (by omega))).conv ?_
    rw [putM, hx, mput_map, mput_map]
    rfl
  · rw [putM, hx] at hp
    rcases mem_mput_ne k1.nodup hp with rfl | ⟨hp, hne⟩
    · exact hi
    · exact (k2 p hp).same (e _ (k2 p hp).lt (inner_ne k3 hp))
  · rw [putM, hx, mput_of_not_mem (mget_none.1 hx)]
    simp only [List.map_append, List.map_cons, List.map_nil]
    rw [← List.cons_append, List.nodup_append]
    refine ⟨k3, by simp, fun x hx y hy => ?_⟩
    simp only [List.mem_singleton] at hy
    subst hy
    have : x < w.heap.size := by
      rcases List.mem_cons.1 hx with rfl | hx
      · exact hlt
      · obtain ⟨p, hp, rfl⟩ := List.mem_map.1 hx
        exact (k2 p hp).lt
    omega
end

theorem look_M {α : Type} {w : World} {mb : Nat} {M : List (Int × Nat × List (Int × α))} (h : MapAt .u64 inV w mb M) {t et : TypeId} (ht : Tryz.prog.underlying t = some (.map 22 et)) (hz : (zeroValue et).run Tryz.prog w = .ok (.map none) w) (a : Int) :
    (Instr.lookup t (.map (some mb)) (.int .u64 a) false).run Tryz.prog w = .ok (atA a M) w := by
  rw [h.look false ht Tryz.underlying22 hz a]
  unfold atA
  cases mget a M <;> rfl
theorem eql_nil_F (w : World) : (binOp .eql 88 (.map none) (.map none)).run Tryz.prog w = .ok (.bool true) w := by kernel_rfl
theorem eql_some_F (w : World) (b : Nat) : (binOp .eql 88 (.map (some b)) (.map none)).run Tryz.prog w = .ok (.bool false) w := by kernel_rfl
theorem eql_nil_L (w : World) : (binOp .eql 94 (.map none) (.map none)).run Tryz.prog w = .ok (.bool true) w := by kernel_rfl
theorem eql_some_L (w : World) (b : Nat) : (binOp .eql 94 (.map (some b)) (.map none)).run Tryz.prog w = .ok (.bool false) w := by kernel_rfl
attribute [local go_sem] eql_nil_F eql_some_F eql_nil_L eql_some_L
set_option maxHeartbeats 2000000 in
theorem putF_any (mb : Nat) (M : List (Int × Nat × List (Int × FS))) (a n : Int) (v : FS) (w : World) (h : Two fsV w mb M) :
    Calls Tryz.prog 53 #[.map (some mb), .int .u64 a, .int .i64 n, fsV v] w fun e w' => e = .returned (.tuple #[]) ∧ PutPost fsV a n v mb M w w' := by
  have H : Hid (Two fsV w mb M) := h
  have hl := look_M h.1 Tryz.underlying71 (zero_fin w) a
  have hmm := @run_makeMap Tryz.prog
  generalize hv : fsV v = vv
  have HV : Hid (fsV v = vv) := hv
  clear hv
  cases hx : mget a M with
  | some x =>
    have HX : Hid (mget a M = some x) := hx
    rw [atA, hx] at hl
    clear h hx
    go_enter Tryz.func53, Tryz.ntmps53
    go_wp2_with (at_mapUpdate; refine wpList_update (H.out.2.1 _ (mem_keys_of_mget HX.out)) rfl _ _ _ _ _ _ rfl Tryz.underlying88 Tryz.underlying3 n v rfl rfl HV.out.symm ?_)
    intro w' hi ho
    go_wp2
    go_end0
    exact ⟨rfl, put_there H.out HX.out (Below.refl _ _) hi ho⟩
  | none =>
    have HX : Hid (mget a M = none) := hx
    rw [atA, hx] at hl
    have HA : Hid (MapAt .u64 inV (w.alloc (.map #[] 0)) mb M) := h.1.same (alloc_old _ _ h.1.lt)
    clear h hx
    go_enter Tryz.func53, Tryz.ntmps53
    go_wp2_with (at_mapUpdate; refine wpList_update HA.out rfl _ _ _ _ _ _ rfl Tryz.underlying71 Tryz.underlying22 a (w.heap.size, ([] : List (Int × FS))) rfl rfl rfl ?_)
    intro w1 h1 ho1
    have hl1 := look_M h1 Tryz.underlying71 (zero_fin w1) a
    rw [atA, mget_mput, if_pos rfl] at hl1
    have HI : Hid (MapAt .i64 fsV w1 w.heap.size ([] : List (Int × FS))) := by
      refine (MapAt.new .i64 fsV w).same (ho1.block _ ?_)
      have := H.out.1.lt
      omega
    have H1 : Hid (MapAt .u64 inV w1 mb (mput a (w.heap.size, ([] : List (Int × FS))) M)) := h1
    have HO : Hid (One mb (w.alloc (.map #[] 0)) w1) := ho1
    clear h1 ho1
    go_wp2_with (at_mapUpdate; refine wpList_update HI.out rfl _ _ _ _ _ _ rfl Tryz.underlying88 Tryz.underlying3 n v rfl rfl HV.out.symm ?_)
    intro w' hi ho
    go_wp2
    go_end0
    exact ⟨rfl, put_new H.out HX.out ((Below.refl _ _).alloc (Nat.le_refl _) _) (Nat.le_refl _) (by simp) H1.out HO.out hi ho⟩

attribute [local go_sem ↓] exec_box_ver exec_load_ver
attribute [local go_sem] verV_cells
set_option maxHeartbeats 2000000 in
theorem putL_any (mb : Nat) (M : List (Int × Nat × List (Int × List Nat))) (a n : Int) (v : List Nat) (hv : v.length = 64) (w : World) (h : Two verV w mb M) :
    Calls Tryz.prog 46 #[.map (some mb), .int .u64 a, .int .i64 n, verV v] w fun e w' => e = .returned (.tuple #[]) ∧ PutPost verV a n v mb M w w' := by
  have H : Hid (Two verV w mb M) := h
  have hmm := @run_makeMap Tryz.prog
  have HA : Hid (MapAt .u64 inV (w.alloc (.cells (verC v) 93)) mb M) := h.1.same (alloc_old _ _ h.1.lt)
  have hl := look_M HA.out Tryz.underlying70 (zero_lin _) a
  have hB : Hid (Below w.heap.size w (w.alloc (.cells (verC v) 93))) := (Below.refl _ _).alloc (Nat.le_refl _) _
  cases hx : mget a M with
  | some x =>
    have HX : Hid (mget a M = some x) := hx
    rw [atA, hx] at hl
    have hld := loadV_new w v hv
    have HI : Hid (MapAt .i64 verV (w.alloc (.cells (verC v) 93)) x.1 x.2) := (h.2.1 _ (mem_keys_of_mget hx)).same (alloc_old _ _ (h.2.1 _ (mem_keys_of_mget hx)).lt)
    clear h hx
    go_enter Tryz.func46, Tryz.ntmps46
    go_wp2_with (at_mapUpdate; refine wpList_update HI.out rfl _ _ _ _ _ _ rfl Tryz.underlying94 Tryz.underlying3 n v rfl rfl rfl ?_)
    intro w' hi ho
    go_wp2
    go_end0
    exact ⟨rfl, put_there H.out HX.out hB.out hi ho⟩
  | none =>
    have HX : Hid (mget a M = none) := hx
    rw [atA, hx] at hl
    have HA2 : Hid (MapAt .u64 inV ((w.alloc (.cells (verC v) 93)).alloc (.map #[] 0)) mb M) := HA.out.same (alloc_old _ _ HA.out.lt)
    clear h hx
    go_enter Tryz.func46, Tryz.ntmps46
    go_wp2_with (at_mapUpdate; refine wpList_update HA2.out rfl _ _ _ _ _ _ rfl Tryz.underlying70 Tryz.underlying22 a (w.heap.size + 1, ([] : List (Int × List Nat))) rfl rfl rfl ?_)
    intro w1 h1 ho1
    have hmb := H.out.1.lt
    have hl1 := look_M h1 Tryz.underlying70 (zero_lin w1) a
    rw [atA, mget_mput, if_pos rfl] at hl1
    have HI : Hid (MapAt .i64 verV w1 (w.heap.size + 1) ([] : List (Int × List Nat))) := by
      have := MapAt.new .i64 verV (w.alloc (.cells (verC v) 93))
      rw [alloc_size] at this
      exact this.same (ho1.block _ (by omega))
    have hld : loadV Tryz.prog (.pointer (some ⟨w.heap.size, 0, none⟩)) w1 = .ok (verV v) w1 := by
      refine run_load_ver _ _ _ v hv (range_block (t := 93) (f := (0, 0)) ?_)
      rw [ho1.block _ (by omega), alloc_old _ _ (by simp), alloc_new]
    have H1 : Hid (MapAt .u64 inV w1 mb (mput a (w.heap.size + 1, ([] : List (Int × List Nat))) M)) := h1
    have HO : Hid (One mb ((w.alloc (.cells (verC v) 93)).alloc (.map #[] 0)) w1) := ho1
    clear h1 ho1
    go_wp2_with (at_mapUpdate; refine wpList_update HI.out rfl _ _ _ _ _ _ rfl Tryz.underlying94 Tryz.underlying3 n v rfl rfl rfl ?_)
    intro w' hi ho
    go_wp2
    go_end0
    exact ⟨rfl, put_new H.out HX.out (hB.out.alloc (by simp) _) (by omega) (by simp) H1.out HO.out hi ho⟩
end Go.Proofs.YthecngkdmnadoaaGreat

/- copy into a new version; append to a list of versions. -/
namespace Go.Proofs.YthecngkdmnadoaaGreat
open Go.RowKit
set_option maxRecDepth 100000

/-- Bytes, and bytes 0 behind them. -/
def pad (xs : List Nat) : List Nat := xs ++ List.replicate (64 - xs.length) 0
theorem pad_len {xs : List Nat} (h : xs.length ≤ 64) : (pad xs).length = 64 := by simp [pad]; omega
theorem splice_pad {xs : List Nat} (h : xs.length ≤ 64) : splice (verC zver) 0 (xs.map bv) = verC (pad xs) := by
  apply Array.ext_getElem?
  intro i
  have hs : (verC zver).size = 64 := by rw [verC_size, zver_len]
  by_cases hi : i < 64
  · rw [splice_get _ _ _ _ (by omega)]
    by_cases hx : i < xs.length
    · rw [if_pos (by simp; omega)]
      simp [verC, pad, List.getElem?_append_left, hx]
    · rw [if_neg (by simp; omega)]
      rw [verC, verC, List.getElem?_toArray, List.getElem?_toArray, List.getElem?_map, List.getElem?_map, pad, List.getElem?_append_right (by omega), zver, List.getElem?_replicate, List.getElem?_replicate, if_pos hi, if_pos (by omega)]
  · rw [Array.getElem?_eq_none (by rw [splice_size]; omega), Array.getElem?_eq_none (by rw [verC_size, pad_len h]; omega)]
def copyV (P : Program) (x y : Value) (ty : TypeId) (w : World) : Result Value := (Builtin.copy_ #[34, 34] ty #[x, y]).run P w
theorem exec_copy_ver (ρ : Operand → Value) (x y : Operand) (dst : Option Tmp) (ty : TypeId) (pos : String) (af : Array Edge) (g : Option (Nat × Bool)) (w : World) :
    (execOp ρ ⟨dst, .call { callee := .builtin .copy, args := #[x, y], argTypes := #[34, 34] }, ty, pos, af, g⟩).run Tryz.prog w = (copyV Tryz.prog (ρ x) (ρ y) ty w).andThen (fun v w' => .ok (.value v) w') := by
  simp only [execOp, resolve, invoke, builtin, Sem.run_bind, Sem.run_pure, Result.andThen_ok, List.map_toArray, List.map_cons, List.map_nil, copyV]
theorem copyV_new (N : Nat) (w : World) (y : Value) (xs : List Nat) (ty : TypeId) (hr : Row N w y xs) (hx : xs.length ≤ 64) :
    copyV Tryz.prog (.slice (some ⟨w.heap.size, 0, none⟩) 64 64) y ty (w.alloc (.cells (verC zver) 93)) = .ok (.int .i64 (xs.length : Int)) (w.alloc (.cells (verC (pad xs)) 93)) := by
  obtain ⟨i0, hi, hz0, hz1, hz2⟩ := info_parts infoByte
  obtain ⟨ao, cap, rfl, hcap, hno, hc⟩ := hr
  have hmin : Nat.min xs.length 64 = xs.length := Nat.min_eq_left hx
  have hs64 : (verC zver).size = 64 := by rw [verC_size, zver_len]
  have hsz : (sizeOf 5).run Tryz.prog (w.alloc (.cells (verC zver) 93)) = .ok 1 (w.alloc (.cells (verC zver) 93)) := by simp [sizeOf, typeInfo, hi, hz1, Result.andThen]
  have hfc : (Builtin.firstCells 1 xs.length (.slice ao xs.length cap)).run Tryz.prog (w.alloc (.cells (verC zver) 93)) = .ok (verC xs) (w.alloc (.cells (verC zver) 93)) := by
    cases ao with
    | none =>
      have e : xs = [] := by
        cases xs with
        | nil => rfl
        | cons y r => obtain ⟨b, off, e, _⟩ := hc (by simp); cases e
      subst e
      simp [Builtin.firstCells, verC]
    | some ad =>
      have hcells : ∀ (j : Nat) (v : Value), (xs.map bv)[j]? = some v → (w.alloc (.cells (verC zver) 93)).cell? (ad.add j) = some v := by
        intro j u hj
        have hjl : j < xs.length := by
          have := (List.getElem?_eq_some_iff.1 hj).1
          simpa using this
        obtain ⟨b, off, e2, _, hc2⟩ := hc (by omega)
        obtain rfl := Option.some.inj e2
        have h2 := hc2 j hjl
        have hadd : (⟨b, off, none⟩ : Addr).add j = ⟨b, off + j, none⟩ := by unfold Addr.add; split <;> simp_all
        have hbl := lt_of_cell h2
        rw [hadd, World.cell?_of_block (w := w) (a := ⟨b, off + j, none⟩) (alloc_old w _ hbl), h2]
        rw [List.getElem?_map, List.getElem?_eq_getElem hjl] at hj
        simp at hj
        rw [← hj]
        simp [List.getD_eq_getElem?_getD, List.getElem?_eq_getElem hjl]
      have := run_loadCells_list (P := Tryz.prog) (w.alloc (.cells (verC zver) 93)) ad (xs.map bv) hcells
      rw [List.length_map] at this
      simp only [Builtin.firstCells, Nat.mul_one]
      exact this
  have hst : (storeCells ⟨w.heap.size, 0, none⟩ (verC xs).toList).run Tryz.prog (w.alloc (.cells (verC zver) 93)) = .ok () (w.alloc (.cells (verC (pad xs)) 93)) := by
    have ht := new_there w (verC zver) 93 (verC xs).size (by rw [hs64, verC_size]; exact hx)
    have := run_storeCells_cells (P := Tryz.prog) w.heap.size 0 (verC xs).toList 0 (w.alloc (.cells (verC zver) 93)) (fun j hj => by have := (ht j (by simpa using hj)).1; simpa using this) (fun _ _ => by simp)
      (fun v hv => (Array.all_eq_true_iff_forall_mem.1 (verC_one xs)) v (by simpa using hv))
    rw [this, Nat.add_zero, setCells_new]
    congr 3
    exact splice_pad hx
  simp only [copyV, Builtin.copy_, Builtin.lenOf, Sem.run_bind, run_underlying Tryz.underlying34, Sem.run_pure, Result.andThen_ok, List.getElem?_toArray, List.getElem?_cons_zero, List.getElem?_cons_succ, hsz, hmin, hfc, hst]
  rfl

theorem fold_splice (vs : List Value) : ∀ (C : Array Value) (k : Nat), (vs.zipIdx k).foldl (fun cs (c, j) => cs.setIfInBounds j c) C = splice C k vs := by
  induction vs with
  | nil => intro C k; rfl
  | cons v r ih => intro C k; rw [List.zipIdx_cons, List.foldl_cons, ih, splice]
theorem buildV (ρ : Operand → Value) (x : Operand) (v : List Nat) (hx : ρ x = verV v) (hv : v.length = 64) (dst : Option Tmp) (ty : TypeId) (pos : String) (af : Array Edge) (g : Option (Nat × Bool)) (w : World) :
    (execOp ρ ⟨dst, .buildSlice 90 1 #[(0, x)], ty, pos, af, g⟩).run Tryz.prog w = .ok (.value (.slice (some ⟨w.heap.size, 0, none⟩) 1 1)) (w.alloc (.cells (verC v) 93)) := by
  obtain ⟨i, hi, hz, hs, hb⟩ := info_parts info_ver
  have hsz : (sizeOf 93).run Tryz.prog w = .ok 64 w := by simp [sizeOf, typeInfo, hi, hs, Result.andThen]
  have hfill : ∀ C : Array Value, C.size = 64 → Instr.fill (fun i => some (i * 64, 64)) C [(0, verV v)] = some (verC v) := by
    intro C hC
    have h1 : (verV v).cells.size = 64 := by show (verC v).size = 64; rw [verC_size, hv]
    have hl : (verC v).toList.length = C.size := by rw [Array.length_toList, verC_size, hv, hC]
    simp only [Instr.fill, Nat.zero_mul, h1, ne_eq, not_true_eq_false, decide_false, Nat.zero_add, hC, gt_iff_lt, Nat.lt_irrefl, Bool.or_self, Bool.false_eq_true, if_false, Option.some.injEq]
    rw [show (verV v).cells = verC v from rfl, ← Array.foldl_toList, Array.toList_zipIdx, fold_splice, splice_full C _ hl]
  have hr : ((Array.range (1 * 64)).map ((verC zver)[· % (verC zver).size]!)).size = 64 := by simp
  have hbs : (Instr.buildSlice 90 1 #[(0, verV v)]).run Tryz.prog w = .ok (.slice (some ⟨w.heap.size, 0, none⟩) 1 1) (w.alloc (.cells (verC v) 93)) := by
    simp only [Instr.buildSlice, Sem.run_bind, run_underlying Tryz.underlying90, Result.andThen_ok, hsz, zero_ver, show (verV zver).cells = verC zver from rfl, show ¬ (1 * 64 > 2 ^ 24) by decide, show ¬ (1 * 64 = 0) by decide, if_false, Sem.run_pure, hfill _ hr]
    rfl
  simp only [execOp, Sem.run_bind, List.map_toArray, List.map_cons, List.map_nil, hx, hbs, Result.andThen_ok, Sem.run_pure]

/-- 'append(l, v)': one version more. -/
theorem wp_append_ver {w : World} {o : Oper} {a : Act} {K : Act → World → Prop} {Q : Exit → Act → World → Prop} (s x : Operand) (ho : o.op = .call { callee := .builtin .append, args := #[s, x], argTypes := #[90, 90] })
    (v : Value) (n : Nat) (xs : List Value) (hs : a.eval s = v) (hown : w.ownsRow 0 93 64 v n xs) (g : Nat) (ver : List Nat) (hx : a.eval x = .slice (some ⟨g, 0, none⟩) 1 1) (hg : w.heap[g]? = some (.cells (verC ver) 93 (0, 0))) (h64 : ver.length = 64) (hn : (n + 1) * 64 ≤ 140737488355328)
    (h : ∀ v' w', w'.ownsRow 0 93 64 v' (n + 1) (xs ++ ver.map bv) → w.grownBy w' v.ownBlock → v' ≠ .slice none 0 0 → (v'.ownBlock = v.ownBlock ∨ v'.ownBlock = some w.heap.size) → K (a.put o.dst v') w') : o.wp Tryz.prog a w K Q := by
  obtain ⟨i, hi, hz, hs1, hb⟩ := info_parts info_ver
  have hc : ∀ (j : Nat) (u : Value), (ver.map bv)[j]? = some u → w.cell? ((⟨g, 0, none⟩ : Addr).add j) = some u := by
    intro j u hj
    have := range_block (v := ver) hg j u hj
    rw [Addr.add_mid]; exact this
  obtain ⟨v', w', hr, h2, h3, h4, h5⟩ := run_append_own_at (P := Tryz.prog) w 0 90 o.type 93 i _ 64 64 Tryz.underlying90 hi hz hs1 hb (by simp [Value.cells]) (by decide) v n xs hown ⟨g, 0, none⟩ 1 1 (ver.map bv) (by simp [h64]) hc
    (fun u hu => by obtain ⟨z, _, rfl⟩ := List.mem_map.1 hu; rfl) (by unfold maxLen; omega) hn (Nat.zero_le _)
  unfold Oper.wp execOp
  simp only [ho, resolve, invoke, builtin, Sem.run_bind, Sem.run_pure, Result.andThen_ok, List.map_toArray, List.map_cons, List.map_nil, hs, hx, hr]
  exact h v' w' h2 h3 (fun e => by have := (h4.1 e).2; omega) h5
end Go.Proofs.YthecngkdmnadoaaGreat
