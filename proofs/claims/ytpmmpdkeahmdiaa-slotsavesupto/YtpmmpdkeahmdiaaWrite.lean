/- Write. -/
import Derived.Test.YtpmmpdkeahmdiaaMoves
namespace Go.Proofs.Ytpmmpdkeahmdiaa
open Go.RowKit
set_option maxRecDepth 100000

/-- Bytes that lie in no block of fp. -/
def RowX (fp : List Nat) (w : World) (y : Value) (xs : List Nat) : Prop := Row w.heap.size w y xs ∧ ∀ b off len cap, y = .slice (some ⟨b, off, none⟩) len cap → 0 < xs.length → b ∉ fp
theorem RowX.only {fp : List Nat} {w w' : World} {y : Value} {xs : List Nat} (h : RowX fp w y xs) (ho : Only fp w w') : RowX fp w' y xs := by
  obtain ⟨⟨ao, cap, rfl, hcap, hno, hc⟩, hx⟩ := h
  refine ⟨⟨ao, cap, rfl, hcap, hno, fun h0 => ?_⟩, hx⟩
  obtain ⟨b, off, rfl, hN, hd⟩ := hc h0
  refine ⟨b, off, rfl, Nat.lt_of_lt_of_le hN ho.size, fun i hi => ?_⟩
  rw [World.cell?_of_block (w := w) (a := ⟨b, off + i, none⟩) (ho.block b hN (hx b off _ _ rfl h0))]
  exact hd i hi
theorem cur_find {sh : Sh} {S : List Sec} (h : Rep sh S) (a n : Int) : (curOf S a n).isSome = (findS a n S).isSome := by
  rw [curOf]
  cases hf : findS a n S with
  | none => rfl
  | some s =>
    simp only [Option.bind_some, Option.isSome_some, Sec.cur]
    rcases h.there s (findS_mem hf) with h1 | h1
    · cases s.fresh.getLast? with
      | some v => rfl
      | none => cases hl : s.last with
        | none => exact absurd hl h1
        | some v => rfl
    · cases hg : s.fresh.getLast? with
      | some v => rfl
      | none => rw [List.getLast?_eq_none_iff] at hg; exact absurd hg h1
theorem DiskAt.cur_find {N : Nat} {w : World} {p : Nat} {d : DS} {fp : List Nat} (h : DiskAt N w p d fp) (a n : Int) : (curOf d.secs a n).isSome = (findS a n d.secs).isSome := by
  obtain ⟨sh, _, _, h3, _⟩ := h; exact Go.Proofs.Ytpmmpdkeahmdiaa.cur_find h3 a n
theorem DiskAt.cur_len {N : Nat} {w : World} {p : Nat} {d : DS} {fp : List Nat} (h : DiskAt N w p d fp) (a n : Int) : ((curOf d.secs a n).getD zver).length = 64 := by
  obtain ⟨sh, _, h2, h3, _⟩ := h
  rw [cur_rep h3]
  cases hg : (fget sh a n).getLast? with
  | some v =>
    show v.length = 64
    rw [fget_eq] at hg
    cases hf : fsGet sh.F a n with
    | none => rw [hf] at hg; cases hg
    | some x =>
      rw [hf] at hg
      obtain ⟨y, hy, hz⟩ := Option.bind_eq_some_iff.1 hf
      exact ((h2.hfi _ (mem_keys_of_mget hy)).2.1 _ (mem_keys_of_mget hz)).2.2.2.1 v (List.mem_of_getLast? hg)
  | none =>
    cases hl : lget sh a n with
    | none => exact zver_len
    | some v =>
      obtain ⟨y, hy, hz⟩ := Option.bind_eq_some_iff.1 hl
      exact (h2.hli _ (mem_keys_of_mget hy)).2.1 _ (mem_keys_of_mget hz)

def formBad (n : Int) (xs : List Nat) : Prop := n < 0 ∨ 65536 ≤ n ∨ 64 < xs.length
instance (n : Int) (xs : List Nat) : Decidable (formBad n xs) := by unfold formBad; exact inferInstance
def fullBad (d : DS) (a n : Int) : Prop := (findS a n d.secs).isSome = false ∧ d.room = d.secs.length
instance (d : DS) (a n : Int) : Decidable (fullBad d a n) := by unfold fullBad; exact inferInstance
def wrE (d : DS) (a n : Int) (xs : List Nat) : Int := if d.dead then 30 else if formBad n xs then 31 else if fullBad d a n then 32 else stepE d
def wrD (d : DS) (a n : Int) (xs : List Nat) : DS := if d.dead then d else if formBad n xs then d else if fullBad d a n then d else { stepD d with secs := wr a n (pad xs) d.secs }
def WriteSays (N : Nat) (p : Nat) (d : DS) (fp : List Nat) (a n : Int) (xs : List Nat) (w : World) (e : Ending) (w' : World) : Prop :=
  e = .returned (.int .i64 (wrE d a n xs)) ∧ ∃ fp', DiskAt (N + 1) w' p (wrD d a n xs) fp' ∧ Only fp w w' ∧ ∀ b ∈ fp', b ∈ fp ∨ w.heap.size ≤ b
set_option maxHeartbeats 2000000 in
theorem Write_dead (N : Nat) (p : Nat) (d : DS) (fp : List Nat) (a n : Int) (y : Value) (xs : List Nat) (w : World) (h : DiskAt N w p d fp) (hd : d.dead = true) :
    Calls Try.prog 25 #[.pointer (some ⟨p, 0, none⟩), .int .u64 a, .int .i64 n, y] w (WriteSays N p d fp a n xs w) := by
  have HD : Hid (DiskAt N w p d fp) := h
  have HX : Hid (d.dead = true) := hd
  obtain ⟨lb, fb, hb⟩ := h.cells
  obtain ⟨c0, c1, c2, c3, c4, c5, c6, c7, hz⟩ := disk_cells hb
  rw [hd] at c3
  clear hb h hd
  go_enter Try.func25, Try.ntmps25
  go_wp2_with fail
  go_ret
  exact ⟨by rw [wrE, if_pos HX.out]; rfl, fp, by rw [wrD, if_pos HX.out]; exact HD.out.mono (by omega), Only.refl _ _, fun b hb => .inl hb⟩
set_option maxHeartbeats 2000000 in
theorem Write_form (N : Nat) (p : Nat) (d : DS) (fp : List Nat) (a n : Int) (y : Value) (xs : List Nat) (w : World) (h : DiskAt N w p d fp) (hr : RowX fp w y xs) (hd : d.dead = false) (hf : formBad n xs) (hl : xs.length ≤ 9223372036854775807) :
    Calls Try.prog 25 #[.pointer (some ⟨p, 0, none⟩), .int .u64 a, .int .i64 n, y] w (WriteSays N p d fp a n xs w) := by
  have HD : Hid (DiskAt N w p d fp) := h
  have HX : Hid (¬ d.dead = true) := fun e => by rw [hd] at e; cases e
  have HF : Hid (formBad n xs) := hf
  obtain ⟨lb, fb, hb⟩ := h.cells
  obtain ⟨c0, c1, c2, c3, c4, c5, c6, c7, hz⟩ := disk_cells hb
  obtain ⟨ao, cap, rfl, hcap⟩ := hr.1.shape
  rw [hd] at c3
  clear hb h hd hr
  unfold formBad at hf
  by_cases h1 : n < 0
  · clear hf
    go_enter Try.func25, Try.ntmps25
    go_wp2_with fail
    go_ret
    exact ⟨by rw [wrE, if_neg HX.out, if_pos HF.out]; rfl, fp, by rw [wrD, if_neg HX.out, if_pos HF.out]; exact HD.out.mono (by omega), Only.refl _ _, fun b hb => .inl hb⟩
  · by_cases h2 : 65536 ≤ n
    · clear hf
      go_enter Try.func25, Try.ntmps25
      go_wp2_with fail
      go_ret
      exact ⟨by rw [wrE, if_neg HX.out, if_pos HF.out]; rfl, fp, by rw [wrD, if_neg HX.out, if_pos HF.out]; exact HD.out.mono (by omega), Only.refl _ _, fun b hb => .inl hb⟩
    · have h3 : (64 : Int) < (xs.length : Int) := by omega
      clear hf
      go_enter Try.func25, Try.ntmps25
      go_wp2_with fail
      go_ret
      exact ⟨by rw [wrE, if_neg HX.out, if_pos HF.out]; rfl, fp, by rw [wrD, if_neg HX.out, if_pos HF.out]; exact HD.out.mono (by omega), Only.refl _ _, fun b hb => .inl hb⟩
end Go.Proofs.Ytpmmpdkeahmdiaa
