/- A call of a script, done to a disk. -/
import Derived.Test.YtpmmpdkeahmdiaaAlive
namespace Go.Proofs.Ytpmmpdkeahmdiaa
open Go.RowKit
set_option maxRecDepth 100000

/-- A call: its kind, area, number and bytes. -/
structure OpC where
  kind : Int
  area : Int
  n : Int
  xs : List Nat
structure OpC.fits (o : OpC) : Prop where
  n1 : -9223372036854775808 ≤ o.n
  n2 : o.n ≤ 9223372036854775807
  a1 : 0 ≤ o.area
  a2 : o.area ≤ 18446744073709551615
  len : o.xs.length ≤ 9223372036854775807
  bytes : ∀ x ∈ o.xs, x < 256
def opV (o : OpC) (b : Value) : Value := .agg #[.int .i64 o.kind, .int .u64 o.area, .int .i64 o.n, b]
def armD (d : DS) (at_ : Int) : DS := if d.dead then d else { d with armed := decide (0 ≤ at_), ahead := at_ }
def doE (d : DS) (o : OpC) : Int := if o.kind = 0 then wrE d o.area o.n o.xs else if o.kind = 1 then stepE d else if o.kind = 2 then stepE d else 0
def doD (d : DS) (o : OpC) : DS := if o.kind = 0 then wrD d o.area o.n o.xs else if o.kind = 1 then syD d o.area else if o.kind = 2 then frD d o.area else if o.kind = 3 then armD d o.n else d
def DoSays (N : Nat) (p : Nat) (d : DS) (fp : List Nat) (o : OpC) (w : World) (e : Ending) (w' : World) : Prop :=
  e = .returned (.int .i64 (doE d o)) ∧ ∃ fp', DiskAt (N + 1) w' p (doD d o) fp' ∧ Only fp w w' ∧ ∀ b ∈ fp', b ∈ fp ∨ w.heap.size ≤ b
theorem RowX.new {fp : List Nat} {w : World} {y : Value} {xs : List Nat} (h : RowX fp w y xs) (o : Obj) : RowX fp (w.alloc o) y xs := h.only (Only.of_below ((Below.refl _ _).alloc (Nat.le_refl _) _))
theorem DiskAt.new {N : Nat} {w : World} {p : Nat} {d : DS} {fp : List Nat} (h : DiskAt N w p d fp) (o : Obj) : DiskAt N (w.alloc o) p d fp := h.below ((Below.refl _ _).alloc (Nat.le_refl _) _)
theorem only_new {fp : List Nat} {w w' : World} {o : Obj} (h : Only fp (w.alloc o) w') : Only fp w w' := (Only.of_below (fp := fp) ((Below.refl w.heap.size w).alloc (Nat.le_refl _) o)).then h fun _ hx => hx
set_option maxHeartbeats 4000000 in
theorem does_any (N : Nat) (p : Nat) (d : DS) (fp : List Nat) (o : OpC) (b : Value) (w : World) (h : DiskAt N w p d fp) (ho : o.fits) (hr : RowX fp w b o.xs) (hN : N < 1099511627776) :
    Calls Try.prog 17 #[.pointer (some ⟨p, 0, none⟩), opV o b] w (DoSays N p d fp o w) := by
  have HD : Hid (DiskAt N w p d fp) := h
  have HR : Hid (RowX fp w b o.xs) := hr
  have HO : Hid o.fits := ho
  unfold opV
  have f1 := ho.n1
  have f2 := ho.n2
  clear h hr ho
  have hsz : w.heap.size ≤ (w.alloc (.cells #[.int .i64 o.kind, .int .u64 o.area, .int .i64 o.n, b] 38)).heap.size := by simp
  by_cases k0 : o.kind = 0
  · have HK : Hid (o.kind = 0) := k0
    rw [k0]
    rw [k0] at hsz
    clear k0
    go_enter Try.func17, Try.ntmps17
    go_wp2_with fail
    refine (Write_any N p d fp _ _ _ o.xs _ (HD.out.new _) (HR.out.new _) HO.out.len hN).mono ?_
    rintro e w2 ⟨rfl, fp', hd, hon, hf⟩
    have HP : Hid (DiskAt (N + 1) w2 p (wrD d o.area o.n o.xs) fp' ∧ Only fp w w2 ∧ ∀ b ∈ fp', b ∈ fp ∨ w.heap.size ≤ b) := ⟨hd, only_new hon, fun b hb => (hf b hb).imp id (fun h => Nat.le_trans hsz h)⟩
    clear hd hon hf
    go_wp2_with fail
    go_ret
    exact ⟨by rw [doE, if_pos HK.out]; rfl, fp', by rw [doD, if_pos HK.out]; exact HP.out⟩
  · by_cases k1 : o.kind = 1
    · have HK : Hid (o.kind = 1) := k1
      have HK0 : Hid (¬ o.kind = 0) := k0
      rw [k1]
      rw [k1] at hsz
      clear k0 k1
      go_enter Try.func17, Try.ntmps17
      go_wp2_with fail
      refine (Sync_any N p d fp _ _ (HD.out.new _) hN).mono ?_
      rintro e w2 ⟨rfl, fp', hd, hon, hf⟩
      have HP : Hid (DiskAt (N + 1) w2 p (syD d o.area) fp' ∧ Only fp w w2 ∧ ∀ b ∈ fp', b ∈ fp ∨ w.heap.size ≤ b) := ⟨hd, only_new hon, fun b hb => (hf b hb).imp id (fun h => Nat.le_trans hsz h)⟩
      clear hd hon hf
      go_wp2_with fail
      go_ret
      exact ⟨by rw [doE, if_neg HK0.out, if_pos HK.out]; rfl, fp', by rw [doD, if_neg HK0.out, if_pos HK.out]; exact HP.out⟩
    · by_cases k2 : o.kind = 2
      · have HK : Hid (o.kind = 2) := k2
        have HK0 : Hid (¬ o.kind = 0) := k0
        have HK1 : Hid (¬ o.kind = 1) := k1
        rw [k2]
        rw [k2] at hsz
        clear k0 k1 k2
        go_enter Try.func17, Try.ntmps17
        go_wp2_with fail
        refine (Free_any N p d fp _ _ (HD.out.new _) hN).mono ?_
        rintro e w2 ⟨rfl, fp', hd, hon, hf⟩
        have HP : Hid (DiskAt (N + 1) w2 p (frD d o.area) fp' ∧ Only fp w w2 ∧ ∀ b ∈ fp', b ∈ fp ∨ w.heap.size ≤ b) := ⟨hd, only_new hon, fun b hb => .inl (hf b hb)⟩
        clear hd hon hf
        go_wp2_with fail
        go_ret
        exact ⟨by rw [doE, if_neg HK0.out, if_neg HK1.out, if_pos HK.out]; rfl, fp', by rw [doD, if_neg HK0.out, if_neg HK1.out, if_pos HK.out]; exact HP.out⟩
      · by_cases k3 : o.kind = 3
        · have HK : Hid (o.kind = 3) := k3
          have HK0 : Hid (¬ o.kind = 0) := k0
          have HK1 : Hid (¬ o.kind = 1) := k1
          have HK2 : Hid (¬ o.kind = 2) := k2
          rw [k3]
          rw [k3] at hsz
          clear k0 k1 k2 k3
          go_enter Try.func17, Try.ntmps17
          go_wp2_with fail
          refine (Arm_any N p d fp _ _ (HD.out.new _) f1 f2).mono ?_
          rintro e w2 ⟨rfl, hd, hon⟩
          have HP : Hid (DiskAt (N + 1) w2 p (armD d o.n) fp ∧ Only fp w w2 ∧ ∀ b ∈ fp, b ∈ fp ∨ w.heap.size ≤ b) := ⟨hd.mono (by omega), only_new hon, fun b hb => .inl hb⟩
          clear hd hon
          go_wp2_with fail
          go_ret
          exact ⟨by rw [doE, if_neg HK0.out, if_neg HK1.out, if_neg HK2.out]; rfl, fp, by rw [doD, if_neg HK0.out, if_neg HK1.out, if_neg HK2.out, if_pos HK.out]; exact HP.out⟩
        · have e0 : (o.kind == 0) = false := by simpa using k0
          have e1 : (o.kind == 1) = false := by simpa using k1
          have e2 : (o.kind == 2) = false := by simpa using k2
          have e3 : (o.kind == 3) = false := by simpa using k3
          have HK : Hid (doE d o = 0 ∧ doD d o = d) := ⟨by rw [doE, if_neg k0, if_neg k1, if_neg k2], by rw [doD, if_neg k0, if_neg k1, if_neg k2, if_neg k3]⟩
          clear k0 k1 k2 k3
          go_enter Try.func17, Try.ntmps17
          go_wp2_with fail
          go_ret
          exact ⟨by rw [HK.out.1]; rfl, fp, by rw [HK.out.2]; exact (HD.out.new _).mono (by omega), Only.of_below ((Below.refl _ _).alloc (Nat.le_refl _) _), fun b hb => .inl hb⟩
end Go.Proofs.Ytpmmpdkeahmdiaa
