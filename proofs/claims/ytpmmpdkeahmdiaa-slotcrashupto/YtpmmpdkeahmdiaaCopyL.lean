/- disk.copyLasting. -/
import Derived.Shelf.Lay
import Derived.Shelf.SlMaps.Clone
import Derived.Ground.SlmcProg
import Derived.Test.YtpmmpdkeahmdiaaSync
namespace Go.Proofs.Ytpmmpdkeahmdiaa
open Go.RowKit Go.Shelf
set_option maxRecDepth 100000
shelf_lay_g SlLaysW.n5 Slmc 5 at Try 64 as cloneL
theorem Clone_any {f : List Nat → Value} {m : List (Int × List Nat)} (b : Nat) (w : World) (h : MapAt .i64 f w b m) :
    Calls Try.prog 64 #[.map (some b)] w fun e w' => e = .returned (.map (some w.heap.size)) ∧ MapAt .i64 f w' w.heap.size m ∧ w'.heap.size = w.heap.size + 1 ∧ Below w.heap.size w w' := by
  obtain ⟨es, clock, hb, hr⟩ := h
  have hc : Calls Try.prog 64 #[.map (some b)] w fun e w' => e = .returned (.map (some w.heap.size)) ∧ w' = w.alloc (.map es clock) := AnyW.maps_Clone cloneL b es clock w hb
  refine hc.mono ?_
  rintro e w' ⟨rfl, rfl⟩
  exact ⟨rfl, ⟨es, clock, (MapKept.heap_alloc w _).1, hr⟩, by simp, (Below.refl _ w).alloc (Nat.le_refl _) _⟩
/-- A copy under way: done: what has been copied. -/
structure CopyInv (w : World) (lb mb r : Nat) (L : List (Int × Nat × List (Int × List Nat))) (wr : World) (done : List (Int × Nat × List (Int × List Nat))) (M : List (Int × Nat × List (Int × List Nat))) : Prop where
  rng : Ranges .u64 inV wr (some lb) r L done
  two : Two verV wr mb M
  eq : M.map (fun p => (p.1, p.2.2)) = done.map (fun p => (p.1, p.2.2))
  new : ∀ p ∈ M, w.heap.size ≤ p.2.1 ∧ p.2.1 ≠ r
  below : Below w.heap.size w wr
theorem mput_new {α : Type} {k : Int} {v : α} : ∀ {m : List (Int × α)}, k ∉ keys m → mput k v m = m ++ [(k, v)]
  | [], _ => rfl
  | p :: t, h => by
    have h1 : p.1 ≠ k := fun e => h (e ▸ .head _)
    rw [mput, if_neg h1, mput_new fun hm => h (.tail _ hm)]
    rfl
theorem keys_eq {α β : Type} {M : List (Int × Nat × α)} {D : List (Int × Nat × β)} {g : α → β} (h : M.map (fun p => (p.1, g p.2.2)) = D.map (fun p => (p.1, p.2.2))) : keys M = keys D := by
  have := congrArg (List.map Prod.fst) h
  rw [List.map_map, List.map_map] at this
  exact this
theorem mget_map {α β : Type} (g : α → β) (a : Int) : ∀ (M : List (Int × α)), (mget a M).map g = mget a (M.map fun p => (p.1, g p.2))
  | [] => rfl
  | p :: r => by
    rw [mget, List.map_cons, mget]
    by_cases e : p.1 = a
    · rw [if_pos e, if_pos e]; rfl
    · rw [if_neg e, if_neg e]; exact mget_map g a r
theorem mget_same {α : Type} {A B : List (Int × α)} (hA : (keys A).Nodup) (hB : (keys B).Nodup) (h : ∀ p, p ∈ A ↔ p ∈ B) (a : Int) : mget a A = mget a B := by
  cases hm : mget a A with
  | some v => exact (mget_of_mem hB ((h _).1 (mem_keys_of_mget hm))).symm
  | none =>
    cases hm' : mget a B with
    | none => rfl
    | some v => rw [mget_of_mem hA ((h _).2 (mem_keys_of_mget hm'))] at hm; cases hm
theorem CopyInv.next {w : World} {lb mb r : Nat} {L done M : List (Int × Nat × List (Int × List Nat))} {wr w' w6 w7 : World} {k : Int} {x : Nat × List (Int × List Nat)} (h : CopyInv w lb mb r L wr done M) (hlb : lb < w.heap.size) (hmb : w.heap.size ≤ mb) (hrw : w.heap.size ≤ r) (hrm : r ≠ mb) (hk : k ∉ keys done)
    (hr2 : Ranges .u64 inV w' (some lb) r L (done ++ [(k, x)])) (ho : OneD r wr w') (hc : MapAt .i64 verV w6 w'.heap.size x.2) (hb6 : Below w'.heap.size w' w6) (hu : MapAt .u64 inV w7 mb (mput k (w'.heap.size, x.2) M)) (ho7 : One mb w6 w7) :
    ∃ done' M', CopyInv w lb mb r L w7 done' M' := by
  have hkM : k ∉ keys M := by rw [keys_eq (g := id) (by simpa using h.eq)]; exact hk
  have hmlt := h.two.1.lt
  have hrl : r < w'.heap.size := hr2.lt
  have hsz := ho.size
  have hbw := h.below.size
  have far : ∀ b, b < wr.heap.size → b ≠ r → b ≠ mb → w7.heap[b]? = wr.heap[b]? := fun b hb h1 h2 => (ho7.block b h2).trans ((hb6.block b (by omega)).trans (ho.block b h1))
  have hlt : ∀ p ∈ M, p.2.1 < wr.heap.size := fun p hp => (h.two.2.1 p hp).lt
  refine ⟨done ++ [(k, x)], M ++ [(k, w'.heap.size, x.2)], ?_, ⟨?_, ?_, ?_⟩, ?_, ?_, ?_⟩
  · refine hr2.same ((ho7.block r hrm).trans (hb6.block r hrl)) fun b hb => ?_
    cases hb
    exact (ho7.block lb (by omega)).trans (hb6.block lb (by omega))
  · rw [← mput_new hkM]; exact hu
  · intro p hp
    rcases List.mem_append.1 hp with hp | hp
    · exact (h.two.2.1 p hp).same (far _ (hlt p hp) (h.new p hp).2 (inner_ne h.two.2.2 hp))
    · rw [List.mem_singleton.1 hp]
      exact hc.same (ho7.block _ (by show w'.heap.size ≠ mb; omega))
  · rw [List.map_append]
    have hn := h.two.2.2
    rw [← List.cons_append, List.nodup_append]
    refine ⟨hn, by simp, fun a ha b hb e => ?_⟩
    simp only [List.map_cons, List.map_nil, List.mem_singleton] at hb
    subst hb
    rcases List.mem_cons.1 ha with ha | ha
    · omega
    · obtain ⟨p, hp, rfl⟩ := List.mem_map.1 ha
      have := hlt p hp
      omega
  · rw [List.map_append, List.map_append, h.eq]; rfl
  · intro p hp
    rcases List.mem_append.1 hp with hp | hp
    · exact h.new p hp
    · rw [List.mem_singleton.1 hp]
      exact ⟨by show w.heap.size ≤ w'.heap.size; omega, by show w'.heap.size ≠ r; omega⟩
  · have e1 : Below w.heap.size wr w' := ⟨ho.os, ho.tape, ho.output, Nat.le_of_eq ho.size.symm, fun b hb => ho.block b (by omega)⟩
    have e2 : Below w.heap.size w6 w7 := ⟨ho7.os, ho7.tape, ho7.output, Nat.le_of_eq ho7.size.symm, fun b hb => ho7.block b (by omega)⟩
    exact ((h.below.trans e1).trans (hb6.mono (by omega))).trans e2
set_option maxHeartbeats 1000000 in
theorem copyLasting_any (lb : Nat) (L : List (Int × Nat × List (Int × List Nat))) (w : World) (h : MapAt .u64 inV w lb L) (hi : ∀ p ∈ L, MapAt .i64 verV w p.2.1 p.2.2) :
    Calls Try.prog 36 #[.map (some lb)] w fun e w' => ∃ mb M, e = .returned (.map (some mb)) ∧ Two verV w' mb M ∧ (∀ a, (mget a M).map (·.2) = (mget a L).map (·.2)) ∧ w.heap.size ≤ mb ∧ (∀ p ∈ M, w.heap.size ≤ p.2.1) ∧ Below w.heap.size w w' := by
  have HH : Hid (MapAt .u64 inV w lb L) := h
  have HI : Hid (∀ p ∈ L, MapAt .i64 verV w p.2.1 p.2.2) := hi
  have hlb := h.lt
  have hmm := @run_makeMap Try.prog
  have HR : Hid (∃ ob, (Instr.range 75 (.map (some lb))).run Try.prog (w.alloc (.map #[] 0)) = .ok (.pointer (some ⟨(w.alloc (.map #[] 0)).heap.size, 0, none⟩)) ((w.alloc (.map #[] 0)).alloc ob) ∧ Ranges .u64 inV ((w.alloc (.map #[] 0)).alloc ob) (some lb) (w.alloc (.map #[] 0)).heap.size L []) := (h.same (alloc_old w _ hlb)).range Try.underlying75
  clear h hi
  go_enter Try.func36, Try.ntmps36
  go_wp2_with (at_range; refine wpList_range_at HR.out rfl _ rfl rfl ?_)
  intro ob hrg
  have hB2 : Below w.heap.size w ((w.alloc (.map #[] 0)).alloc ob) := ((Below.refl _ w).alloc (Nat.le_refl _) _).alloc (by simp) _
  have hT : Two verV ((w.alloc (.map #[] 0)).alloc ob) w.heap.size [] := ⟨(MapAt.new .u64 inV w).same (alloc_old _ _ (by simp)), fun p hp => (by cases hp), by simp⟩
  have H0 : Hid (CopyInv w lb w.heap.size (w.heap.size + 1) L ((w.alloc (.map #[] 0)).alloc ob) [] []) := ⟨by simpa using hrg, hT, rfl, fun p hp => (by cases hp), hB2⟩
  clear hrg hB2 hT
  go_wp2_with fail
  go_loopw [] (fun wr => ∃ done M, CopyInv w lb w.heap.size (w.heap.size + 1) L wr done M) (fun wr => L.length - seenAt wr (w.heap.size + 1))
  case atStart => exact ⟨[], [], H0.out⟩
  case round =>
    obtain ⟨done, M, hI⟩ := hrel
    have HIV : Hid (CopyInv w lb w.heap.size (w.heap.size + 1) L wr done M) := hI
    clear hI
    go_wp2_with (at_next; refine wpList_next_at HIV.out.rng rfl _ rfl rfl ?_ ?_)
    · intro hall
      have HALL : Hid (AllIn L done) := hall
      clear hall
      go_wp2_with fail
      go_ret
      have h := HIV.out
      obtain ⟨_, _, hdn, hdm⟩ := h.rng.seen
      refine ⟨_, M, rfl, h.two, fun a => ?_, Nat.le_refl _, fun p hp => (h.new p hp).1, h.below⟩
      have e1 : mget a done = mget a L := mget_same hdn HH.out.nodup (fun p => ⟨hdm p, HALL.out p⟩) a
      rw [← e1, mget_map, mget_map]
      exact congrArg _ h.eq
    · intro k xb xm w' hm hk hr2 ho hen
      have hmx := HI.out _ hm
      have hbw : Below w.heap.size w w' := HIV.out.below.trans ⟨ho.os, ho.tape, ho.output, Nat.le_of_eq ho.size.symm, fun b hb => ho.block b (by omega)⟩
      have HMX : Hid (MapAt .i64 verV w' xb xm) := hmx.same (hbw.block xb hmx.lt)
      have HR2 : Hid (Ranges .u64 inV w' (some lb) (w.heap.size + 1) L (done ++ [(k, xb, xm)])) := hr2
      have HO : Hid (OneD (w.heap.size + 1) wr w') := ho
      have HKK : Hid (k ∉ keys done) := hk
      have hen' : (Instr.entry (.pointer (some ⟨w.heap.size + 1, 0, none⟩))).run Try.prog w' = .ok (.tuple #[.int .u64 k, .map (some xb)]) w' := hen
      have hsn0 := HIV.out.rng.seen
      have hsn := hr2.seen
      try rw [show inV (xb, xm) = .map (some xb) from rfl]
      clear hen hmx hbw hr2 ho hk hm
      go_wp2_with fail
      refine (Clone_any xb w' HMX.out).mono ?_
      rintro e w6 ⟨rfl, hc6, hs6, hb6⟩
      have hM6 : MapAt .u64 inV w6 w.heap.size M := HIV.out.two.1.same ((hb6.block _ (by have := HIV.out.two.1.lt; have := HO.out.size; omega)).trans (HO.out.block _ (by omega)))
      have HM6 : Hid (MapAt .u64 inV w6 w.heap.size M) := hM6
      have HC6 : Hid (MapAt .i64 verV w6 w'.heap.size xm ∧ Below w'.heap.size w' w6) := ⟨hc6, hb6⟩
      clear hc6 hb6 hM6
      go_wp2_with (at_mapUpdate; refine wpList_update HM6.out rfl _ _ _ _ _ _ rfl Try.underlying75 Try.underlying35 k (w'.heap.size, xm) rfl rfl rfl ?_)
      intro w7 hu7 ho7
      have HN : Hid (∃ done' M', CopyInv w lb w.heap.size (w.heap.size + 1) L w7 done' M') := HIV.out.next (x := (xb, xm)) hlb (Nat.le_refl _) (by omega) (by omega) HKK.out HR2.out HO.out HC6.out.1 HC6.out.2 hu7 ho7
      have hseen : seenAt w7 (w.heap.size + 1) = seenAt w' (w.heap.size + 1) := by
        unfold seenAt
        rw [ho7.block _ (by omega), HC6.out.2.block _ HR2.out.lt]
      clear hu7 ho7
      go_wp2_with fail
      go_roundw
      case rel => exact HN.out
      case measure =>
        rw [hseen, hsn.1, hsn0.1]
        have := hsn.2.1
        rw [List.length_append, List.length_singleton] at this ⊢
        omega
end Go.Proofs.Ytpmmpdkeahmdiaa
