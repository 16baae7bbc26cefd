/- Cut: what the seat's translation lacks is left out. -/
/- Maps of the builder, whose keys are structs: what a block holds, as a list of keys and numbers; what a look-up and a store of a new key do. -/
import Derived.Test.YtncnefpkfbngaaaGreatDoorJ3
import Derived.DeepKeys4
import Derived.Maps.Keyed
namespace Go.Proofs.YtncnefpkfbngaaaGreatDoor
open Go.RowKit Nums Fm Go.Maps Go.MapKept
set_option maxRecDepth 100000

/-- A state's key: final, out, the number of its arcs. -/
abbrev SK := Bool × Int × Nat
/-- A list's key: the number of those ahead, the last arc. -/
abbrev LK := Nat × Arc
/-- Numbers that fit. -/
def Fits64 (n : Int) : Prop := -9223372036854775808 ≤ n ∧ n ≤ 9223372036854775807
def Fits32 (n : Int) : Prop := -2147483648 ≤ n ∧ n ≤ 2147483647
/-- Block b is a map whose entries are m, in their order. -/
def KMapAt {κ : Type} (kt : TypeId) (K : κ → Value) (w : World) (b : Nat) (m : List (κ × Nat)) : Prop :=
 ∃ es clock, w.heap[b]? = some (.map es clock) ∧ es.toList.map (fun e => (e.key, e.val)) = m.map (fun p => (K p.1, Value.int .i64 p.2)) ∧ ∀ p ∈ m, ∃ l, keyOf Tryz.prog kt (K p.1) = some l
section
variable {κ : Type} {kt t et : TypeId} {K : κ → Value} {w w' : World} {b : Nat} {m : List (κ × Nat)}
theorem KMapAt.same (h : KMapAt kt K w b m) (e : w'.heap[b]? = w.heap[b]?) : KMapAt kt K w' b m := by
 obtain ⟨es, clock, hb, r⟩ := h; exact ⟨es, clock, e.trans hb, r⟩
theorem KMapAt.lt (h : KMapAt kt K w b m) : b < w.heap.size := by
 obtain ⟨es, clock, hb, _⟩ := h; exact (Array.getElem?_eq_some_iff.1 hb).1
theorem KMapAt.new (w : World) : KMapAt kt K (w.alloc (.map #[] 0)) w.heap.size [] := ⟨#[], 0, (MapKept.heap_alloc w _).1, rfl, by simp⟩
theorem KMapAt.entry {es : Array MapEntry} (h : es.toList.map (fun e => (e.key, e.val)) = m.map (fun p => (K p.1, Value.int .i64 p.2))) {j : Nat} {e : MapEntry} (he : es.toList[j]? = some e) : ∃ p, m[j]? = some p ∧ e.key = K p.1 ∧ e.val = .int .i64 p.2 := by
 have h2 := congrArg (·[j]?) h
 simp only [List.getElem?_map, he, Option.map_some] at h2
 cases hm : m[j]? with
 | none => rw [hm] at h2; simp at h2
 | some p =>
  rw [hm] at h2
  simp only [Option.map_some, Option.some.injEq, Prod.mk.injEq] at h2
  exact ⟨p, rfl, h2.1, h2.2⟩
theorem KMapAt.keyed {es : Array MapEntry} (h : es.toList.map (fun e => (e.key, e.val)) = m.map (fun p => (K p.1, Value.int .i64 p.2))) (hk : ∀ p ∈ m, ∃ l, keyOf Tryz.prog kt (K p.1) = some l) : ∀ e ∈ es.toList, ∃ l, keyOf Tryz.prog kt e.key = some l := by
 intro e he
 obtain ⟨j, hj⟩ := List.mem_iff_getElem?.1 he
 obtain ⟨p, hp, h1, _⟩ := KMapAt.entry h hj
 rw [h1]
 exact hk p (List.mem_of_getElem? hp)
/-- 'v, ok := m[x]'. -/
theorem KMapAt.look (h : KMapAt kt K w b m) (hK : Keyed Tryz.prog kt) (ht : Tryz.prog.underlying t = some (.map kt 3)) {x : κ} {l : Lit} (hx : keyOf Tryz.prog kt (K x) = some l) (hinj : ∀ y, K y = K x → y = x) :
 ((∀ n, (x, n) ∉ m) ∧ (Instr.lookup t (.map (some b)) (K x) true).run Tryz.prog w = .ok (.tuple #[.int .i64 0, .bool false]) w) ∨
 ∃ n, (x, n) ∈ m ∧ (Instr.lookup t (.map (some b)) (K x) true).run Tryz.prog w = .ok (.tuple #[.int .i64 n, .bool true]) w := by
 obtain ⟨es, clock, hb, hm, hk⟩ := h
 have hz : (zeroValue 3).run Tryz.prog w = .ok (.int .i64 0) w := by kernel_rfl
 rcases hK.find w hx es.toList (KMapAt.keyed hm hk) with ⟨h1, h2⟩ | ⟨j, e, h1, h2, h3⟩
 · refine .inl ⟨fun n hn => ?_, ?_⟩
   · obtain ⟨j, hj⟩ := List.mem_iff_getElem?.1 hn
     have h4 := congrArg (·[j]?) hm
     simp only [List.getElem?_map, hj, Option.map_some] at h4
     cases he : es.toList[j]? with
     | none => rw [he] at h4; simp at h4
     | some e =>
      rw [he] at h4
      simp only [Option.map_some, Option.some.injEq, Prod.mk.injEq] at h4
      exact h2 e (List.mem_of_getElem? he) h4.1
   · simp [Instr.lookup, run_underlying ht, MapKept.run_getObj_map hb, hK.check w _ hx, h1, hz, Result.andThen]
 · obtain ⟨p, hp, h4, h5⟩ := KMapAt.entry hm h2
   have hpx : p.1 = x := hinj _ (h4.symm.trans h3)
   refine .inr ⟨p.2, ?_, ?_⟩
   · rw [← hpx]; exact List.mem_of_getElem? hp
   · simp [Instr.lookup, run_underlying ht, MapKept.run_getObj_map hb, hK.check w _ hx, h1, h5, Result.andThen]
/-- 'm[x] = n', x new. -/
theorem KMapAt.store (h : KMapAt kt K w b m) (hK : Keyed Tryz.prog kt) (ht : Tryz.prog.underlying t = some (.map kt 3)) {x : κ} {l : Lit} (hx : keyOf Tryz.prog kt (K x) = some l) (hinj : ∀ y, K y = K x → y = x) (hnew : ∀ n, (x, n) ∉ m) (n : Nat) :
 ∃ w', (Instr.mapUpdate t (.map (some b)) (K x) (.int .i64 n)).run Tryz.prog w = .ok () w' ∧ KMapAt kt K w' b (m ++ [(x, n)]) ∧ w'.os = w.os ∧ w'.tape = w.tape ∧ w'.output = w.output ∧ w'.heap.size = w.heap.size ∧ ∀ k, k ≠ b → w'.heap[k]? = w.heap[k]? := by
 obtain ⟨es, clock, hb, hm, hk⟩ := h
 rcases hK.find w hx es.toList (KMapAt.keyed hm hk) with ⟨h1, h2⟩ | ⟨j, e, h1, h2, h3⟩
 · refine ⟨{ w with heap := w.heap.setIfInBounds b (.map (es.push ⟨K x, .int .i64 n, clock⟩) (clock + 1)) }, ?_, ⟨es.push ⟨K x, .int .i64 n, clock⟩, clock + 1, (heap_set hb).1, by simp [hm], fun p hp => ?_⟩, rfl, rfl, rfl, by simp, fun i hi => (heap_set hb).2 i hi⟩
   · simp [Instr.mapUpdate, run_underlying ht, MapKept.run_getObj_map hb, hK.check w _ hx, h1, MapKept.run_setObj_map _ hb, Result.andThen]
   · rcases List.mem_append.1 hp with hp | hp
     · exact hk p hp
     · rw [List.mem_singleton.1 hp]; exact ⟨l, hx⟩
 · obtain ⟨p, hp, h4, h5⟩ := KMapAt.entry hm h2
   have hpx : p.1 = x := hinj _ (h4.symm.trans h3)
   exact absurd (show (x, p.2) ∈ m by rw [← hpx]; exact List.mem_of_getElem? hp) (hnew p.2)
theorem KMapAt.len (h : KMapAt kt K w b m) (ht : Tryz.prog.underlying t = some (.map kt 3)) (ty : TypeId) : (Builtin.len_ #[t] ty #[.map (some b)]).run Tryz.prog w = .ok (.int .i64 (m.length : Int)) w := by
 obtain ⟨es, clock, hb, hm, _⟩ := h
 have hl : es.size = m.length := by simpa using congrArg List.length hm
 simp [Builtin.len_, run_underlying ht, MapKept.run_getObj_map hb, Result.andThen, goInt, hl]
end
end Go.Proofs.YtncnefpkfbngaaaGreatDoor
