/- Texts that were written apart, joined. -/
import Derived.Test.YthecngkdmnadoaaGreatG19
import Derived.Test.YthecngkdmnadoaaGreatWalL2
import Derived.Test.YthecngkdmnadoaaGreatG17
import Derived.Test.YthecngkdmnadoaaGreatG13
import Derived.Test.YthecngkdmnadoaaGreatG00
/- A record laid behind the last one's, in the segment that is there: extend. -/
namespace Go.Proofs.YthecngkdmnadoaaGreat
open Go.RowKit
set_option maxRecDepth 100000

theorem WalAt.seg {w : World} {b : Nat} {n : WN} {v : WV} (h : WalAt w b n v) : SegAt w b 5 (walC n v) 83 n.area n.sector (.slice v.ta n.tail v.tc) := ⟨by simp [walC], h⟩
theorem SegAt.wal {w : World} {b : Nat} {n : WN} {v : WV} {s : Nat} {ta : Option Addr} {tl tc : Nat} (h : SegAt w b 5 (walC n v) 83 n.area s (.slice ta tl tc)) : WalAt w b { n with sector := s, tail := tl } { v with ta := ta, tc := tc } := h.hb
def S5 (b p : Nat) (W : World) : Prop := W.cell? ⟨b, 0, none⟩ = some (.pointer (some ⟨p, 0, none⟩))
theorem S5.facts {b p : Nat} {W : World} (h : S5 b p W) : W.cell? ⟨b, 0, none⟩ = some (.pointer (some ⟨p, 0, none⟩)) := h
/-- What lay leaves of the log in block b. -/
def LaidW (N b : Nat) (R : LayR) (fp : List Nat) (n : WN) (v : WV) (w w' : World) : Prop :=
  ∃ fp' tv', DiskAt N w' v.p R.d fp' ∧ SegAt w' b 5 (walC n v) 83 n.area R.sector tv' ∧ (R.tail = none → tv' = .slice v.ta n.tail v.tc) ∧ (∀ t, R.tail = some t → NewRow w.heap.size (b :: fp') w' tv' t) ∧ Only (b :: fp) w w' ∧ (∀ k ∈ fp', k ∈ fp ∨ w.heap.size ≤ k) ∧ b ∉ fp'
theorem LaidW.s5 {N b : Nat} {R : LayR} {fp : List Nat} {n : WN} {v : WV} {w w' : World} (h : LaidW N b R fp n v w w') : S5 b v.p w' := by
  obtain ⟨fp', tv', _, h2, _⟩ := h
  unfold S5 World.cell?
  rw [h2.hb]
  rfl
set_option maxHeartbeats 2000000 in
theorem extend_more (N b : Nat) (d : DS) (fp : List Nat) (n : WN) (v : WV) (tl x : List Nat) (xa : Option Addr) (xc : Nat) (w : World) (h : DiskAt N w v.p d fp) (hw : WalAt w b n v) (hbf : b ∉ fp) (ht : Row w.heap.size w (.slice v.ta n.tail v.tc) tl) (hx : Row w.heap.size w (.slice xa x.length xc) x)
    (hl1 : tl.length < 1024) (hl2 : x.length < 4096) (hN : N < 274877906944) (hsec : n.sector ≤ 1099511627776) (htl : n.tail = tl.length) (hwn : wantsN n.sector n.tail = false) :
    Calls Tryz.prog 56 #[.pointer (some ⟨b, 0, none⟩), .slice xa x.length xc] w fun e w' => (¬ fitsE d n.tail x.length = 0 ∧ e = .returned (.int .i64 (fitsE d n.tail x.length)) ∧ ∃ k, w' = w.drewN k) ∨ (fitsE d n.tail x.length = 0 ∧ e = .returned (.int .i64 (layR d n.area n.sector (tl ++ x)).e) ∧ LaidW (N + (tl ++ x).length + 1) b (layR d n.area n.sector (tl ++ x)) fp n v w w') := by
  have HWA : Hid (Calls Tryz.prog 78 #[.pointer (some ⟨b, 5, none⟩)] w fun e w' => e = .returned (.bool false) ∧ w' = w) := hwn ▸ wants_any w b n v hw
  have hc := hw.cells
  have HFI : Hid (∀ k, Calls Tryz.prog 75 #[.pointer (some ⟨b, 5, none⟩), .pointer (some ⟨v.p, 0, none⟩), .int .i64 (x.length : Int)] (w.drewN k) fun e w' => e = .returned (.int .i64 (fitsE d n.tail x.length)) ∧ ∃ j, w' = (w.drewN k).drewN j) := fun k => fits_any N v.p b 5 d fp v.ta n.tail v.tc x.length (w.drewN k) (h.same fun _ _ => rfl) hc.2.2.2.2.2.2.2.1 (by omega) (by omega)
  obtain ⟨c0, c1, c2, c3, c4, c5, c6, c7, c8, c9, hz⟩ := hc
  obtain ⟨R, hR⟩ : ∃ R, layR d n.area n.sector (tl ++ x) = R := ⟨_, rfl⟩
  have HLA : Hid (∀ k, Calls Tryz.prog 76 #[.pointer (some ⟨b, 5, none⟩), .pointer (some ⟨v.p, 0, none⟩), .slice xa x.length xc] (w.drewN k) fun e w' => e = .returned (.int .i64 R.e) ∧ LaidW (N + (tl ++ x).length + 1) b R fp n v w w') := by
    intro k
    refine (lay_any N v.p b 5 (walC n v) 83 n.area n.sector _ _ tl x d fp (w.drewN k) (h.same fun _ _ => rfl) (hw.seg.same rfl) hbf ht hx (by omega) (by omega) hN (by omega) hsec).mono ?_
    rw [hR]
    rintro e w' ⟨rfl, fp', tv', a1, a2, a3, a4, a5, a6, a7⟩
    exact ⟨rfl, fp', tv', a1, a2, a3, a4, ⟨a5.os, a5.tape, a5.output, a5.size, a5.block⟩, a6, a7⟩
  rw [hR]
  obtain ⟨xl, hxl⟩ : ∃ xl, x.length = xl := ⟨_, rfl⟩
  obtain ⟨fe, hfe⟩ : ∃ fe, fitsE d n.tail x.length = fe := ⟨_, rfl⟩
  rw [hfe] at HFI ⊢
  rw [hxl] at HFI HLA
  rw [hxl]
  obtain ⟨p, hp⟩ : ∃ p, v.p = p := ⟨_, rfl⟩
  rw [hp] at c0 HFI HLA
  clear c1 c2 c3 c4 c5 c6 c7 c8 c9 h hw ht hx hfe hR hxl
  go_enter Tryz.func56, Tryz.ntmps56
  go_wp2_with (go_at_call 78; refine HWA.out.mono ?_; rintro e w0 ⟨rfl, hw0⟩; subst w0)
  have hS0 : ∀ k, S5 b p (w.drewN k) := fun _ => c0
  refine region_at (S := S5 b p) 11 rfl (by kernel_rfl) (hS0 1) (fun _ => ?_)
  refine take_at (i := 0) 15 rfl rfl (by kernel_rfl) (by kernel_rfl) (by kernel_rfl) (fun _ _ _ h => h) (by rfl) (fun w hSw => by (have hSw2 := S5.facts hSw; clear hSw; go_simp; first | done | exact rfl)) (by assumption) ?_
  simp only [List.setIfInBounds_toArray, List.set_cons_zero, List.set_cons_succ]
  refine take_at (i := 1) 16 rfl rfl (by kernel_rfl) (by kernel_rfl) (by kernel_rfl) (fun _ _ _ h => h) (by rfl) (fun w hSw => by (have hSw2 := S5.facts hSw; clear hSw; go_simp; first | done | exact rfl)) (by assumption) ?_
  simp only [List.setIfInBounds_toArray, List.set_cons_zero, List.set_cons_succ]
  refine take_at (i := 2) 17 rfl rfl (by kernel_rfl) (by kernel_rfl) (by kernel_rfl) (fun _ _ _ h => h) (by rfl) (fun w hSw => by (have hSw2 := S5.facts hSw; clear hSw; go_simp; first | done | exact rfl)) (by assumption) ?_
  simp only [List.setIfInBounds_toArray, List.set_cons_zero, List.set_cons_succ]
  refine take_at (i := 3) 18 rfl rfl (by kernel_rfl) (by kernel_rfl) (by kernel_rfl) (fun _ _ _ h => h) (by rfl) (fun w hSw => by (have hSw2 := S5.facts hSw; clear hSw; go_simp; first | done | exact rfl)) (by assumption) ?_
  simp only [List.setIfInBounds_toArray, List.set_cons_zero, List.set_cons_succ]
  refine take_at (i := 4) 19 rfl rfl (by kernel_rfl) (by kernel_rfl) (by kernel_rfl) (fun _ _ _ h => h) (by rfl) (fun w hSw => by (have hSw2 := S5.facts hSw; clear hSw; go_simp; first | done | exact rfl)) (by assumption) ?_
  simp only [List.setIfInBounds_toArray, List.set_cons_zero, List.set_cons_succ]
  refine take_at (i := 5) 20 rfl rfl (by kernel_rfl) (by kernel_rfl) (by kernel_rfl) (fun _ _ _ h => h) (by rfl) (fun w hSw => by (have hSw2 := S5.facts hSw; clear hSw; go_simp; first | done | exact rfl)) (by assumption) ?_
  simp only [List.setIfInBounds_toArray, List.set_cons_zero, List.set_cons_succ]
  refine take_at (i := 6) 21 rfl rfl (by kernel_rfl) (by kernel_rfl) (by kernel_rfl) (fun _ _ _ h => h) (by rfl) (fun w hSw => by (have hSw2 := S5.facts hSw; clear hSw; go_simp; first | done | exact rfl)) (by assumption) ?_
  simp only [List.setIfInBounds_toArray, List.set_cons_zero, List.set_cons_succ]
  refine take_at (i := 7) 22 rfl rfl (by kernel_rfl) (by kernel_rfl) (by kernel_rfl) (fun _ _ _ h => h) (by rfl) (fun w hSw => by (have hSw2 := S5.facts hSw; clear hSw; go_simp; first | done | exact rfl)) (by assumption) ?_
  simp only [List.setIfInBounds_toArray, List.set_cons_zero, List.set_cons_succ]
  refine take_at (i := 8) 23 rfl rfl (by kernel_rfl) (by kernel_rfl) (by kernel_rfl) (fun _ _ _ h => h) (by rfl) (fun w hSw => by (have hSw2 := S5.facts hSw; clear hSw; go_simp; first | done | exact rfl)) (by assumption) ?_
  simp only [List.setIfInBounds_toArray, List.set_cons_zero, List.set_cons_succ]
  refine one_call (i := 9) (w0 := w.drew) 24 75 #[.pointer (some ⟨b, 5, none⟩), .pointer (some ⟨p, 0, none⟩), .int .i64 (xl : Int)] (by kernel_rfl) rfl rfl (by rfl) (by kernel_rfl) ?_
  refine (HFI.out 1).mono ?_
  rintro e w1 ⟨rfl, j1, hw1⟩
  obtain ⟨k1, hk1⟩ : ∃ k1, w1 = w.drewN k1 := ⟨1 + j1, by rw [hw1, World.drewN_drewN]⟩
  clear hw1
  subst w1
  refine ⟨_, rfl, c0, fun _ => ?_⟩
  simp only [List.setIfInBounds_toArray, List.set_cons_zero, List.set_cons_succ]
  refine one_value (i := 10) (v := .int .i64 fe) (w' := w.drewN k1) 5 (by kernel_rfl) rfl rfl (by rfl) (by kernel_rfl) c0 (fun _ => ?_)
  refine wpAnyH_done (by kernel_rfl) ?_ _
  simp only [List.setIfInBounds_toArray, List.set_cons_zero, List.set_cons_succ]
  by_cases h0 : fe = 0
  · subst h0
    go_wp2_with fail
    refine region_at (S := S5 b p) 10 rfl (by kernel_rfl) c0 (fun _ => ?_)
    refine take_at (i := 0) 28 rfl rfl (by kernel_rfl) (by kernel_rfl) (by kernel_rfl) (fun _ _ _ h => h) (by rfl) (fun w hSw => by (have hSw2 := S5.facts hSw; clear hSw; go_simp; first | done | exact rfl)) (by assumption) ?_
    simp only [List.setIfInBounds_toArray, List.set_cons_zero, List.set_cons_succ]
    refine take_at (i := 1) 29 rfl rfl (by kernel_rfl) (by kernel_rfl) (by kernel_rfl) (fun _ _ _ h => h) (by rfl) (fun w hSw => by (have hSw2 := S5.facts hSw; clear hSw; go_simp; first | done | exact rfl)) (by assumption) ?_
    simp only [List.setIfInBounds_toArray, List.set_cons_zero, List.set_cons_succ]
    refine take_at (i := 2) 30 rfl rfl (by kernel_rfl) (by kernel_rfl) (by kernel_rfl) (fun _ _ _ h => h) (by rfl) (fun w hSw => by (have hSw2 := S5.facts hSw; clear hSw; go_simp; first | done | exact rfl)) (by assumption) ?_
    simp only [List.setIfInBounds_toArray, List.set_cons_zero, List.set_cons_succ]
    refine take_at (i := 3) 31 rfl rfl (by kernel_rfl) (by kernel_rfl) (by kernel_rfl) (fun _ _ _ h => h) (by rfl) (fun w hSw => by (have hSw2 := S5.facts hSw; clear hSw; go_simp; first | done | exact rfl)) (by assumption) ?_
    simp only [List.setIfInBounds_toArray, List.set_cons_zero, List.set_cons_succ]
    refine take_at (i := 4) 32 rfl rfl (by kernel_rfl) (by kernel_rfl) (by kernel_rfl) (fun _ _ _ h => h) (by rfl) (fun w hSw => by (have hSw2 := S5.facts hSw; clear hSw; go_simp; first | done | exact rfl)) (by assumption) ?_
    simp only [List.setIfInBounds_toArray, List.set_cons_zero, List.set_cons_succ]
    refine take_at (i := 5) 33 rfl rfl (by kernel_rfl) (by kernel_rfl) (by kernel_rfl) (fun _ _ _ h => h) (by rfl) (fun w hSw => by (have hSw2 := S5.facts hSw; clear hSw; go_simp; first | done | exact rfl)) (by assumption) ?_
    simp only [List.setIfInBounds_toArray, List.set_cons_zero, List.set_cons_succ]
    refine take_at (i := 6) 34 rfl rfl (by kernel_rfl) (by kernel_rfl) (by kernel_rfl) (fun _ _ _ h => h) (by rfl) (fun w hSw => by (have hSw2 := S5.facts hSw; clear hSw; go_simp; first | done | exact rfl)) (by assumption) ?_
    simp only [List.setIfInBounds_toArray, List.set_cons_zero, List.set_cons_succ]
    refine take_at (i := 7) 35 rfl rfl (by kernel_rfl) (by kernel_rfl) (by kernel_rfl) (fun _ _ _ h => h) (by rfl) (fun w hSw => by (have hSw2 := S5.facts hSw; clear hSw; go_simp; first | done | exact rfl)) (by assumption) ?_
    simp only [List.setIfInBounds_toArray, List.set_cons_zero, List.set_cons_succ]
    refine one_call (i := 8) (w0 := w.drewN (k1 + 1)) 36 76 #[.pointer (some ⟨b, 5, none⟩), .pointer (some ⟨p, 0, none⟩), .slice xa xl xc] (by kernel_rfl) rfl rfl (by rfl) (by kernel_rfl) ?_
    refine (HLA.out (k1 + 1)).mono ?_
    rintro e w2 ⟨rfl, hlaid⟩
    have hS2 : S5 b p w2 := hp ▸ hlaid.s5
    refine ⟨_, rfl, hS2, fun _ => ?_⟩
    simp only [List.setIfInBounds_toArray, List.set_cons_zero, List.set_cons_succ]
    refine one_value (i := 9) (v := .int .i64 R.e) (w' := w2) 4 (by kernel_rfl) rfl rfl (by rfl) (by kernel_rfl) hS2 (fun _ => ?_)
    refine wpAnyH_done (by kernel_rfl) ?_ _
    simp only [List.setIfInBounds_toArray, List.set_cons_zero, List.set_cons_succ]
    go_wp2_with fail
    go_ret
    exact ⟨rfl, by rw [← List.length_append]; exact hlaid⟩
  · have h0b : (fe == 0) = false := by simpa using h0
    have h0n : (fe != 0) = true := by simpa using h0
    go_wp2_with fail
    go_ret
    exact .inl ⟨h0, rfl, k1, rfl⟩
end Go.Proofs.YthecngkdmnadoaaGreat

/- append at the records' row. -/
namespace Go.Proofs.YthecngkdmnadoaaGreat
open Go.RowKit
set_option maxRecDepth 100000

/-- 'append(s, x)': the slice x lies in a block that was made for it. -/
theorem append_srun {w : World} {B : Nat} {v : Value} {l : List Sv} (x : Sv) (nb c : Nat) (hown : SOwn B w v l) (hx : w.cell? ⟨nb, 0, none⟩ = some (encS x)) (hB : B ≤ w.heap.size) (h63 : l.length < 2199023255552) (ty : TypeId) :
    ∃ v' w', (Builtin.append_ #[80, 80] ty #[v, .slice (some ⟨nb, 0, none⟩) 1 c]).run Tryz.prog w = .ok v' w' ∧ SOwn B w' v' (l ++ [x]) ∧ w.grownBy w' v.ownBlock := by
  obtain ⟨i0, hi, hz0, hz1, hz2⟩ := info_parts info_S
  obtain ⟨v', w', h1, h2, h3, _⟩ := run_append_own (P := Tryz.prog) w B 80 ty 34 i0 _ 1 24 Tryz.underlying80 hi hz0 hz1 hz2 rfl (by decide) v l.length _ hown ⟨nb, 0, none⟩ 1 c [encS x] rfl (fun j u hj => by
    match j, hj with
    | 0, hj => simp at hj; rw [← hj]; simpa [Addr.add] using hx
    | j + 1, hj => simp at hj) (by intro u hu; simp at hu; rw [hu]; rfl) (by simp only [maxLen]; omega) (by omega) hB
  refine ⟨v', w', h1, ?_, h3⟩
  unfold SOwn
  rw [List.length_append, List.map_append]
  exact h2
/-- The law of it in a walk. -/
theorem append_s {W : World} {ops : Array Oper} {rest : List Oper} {o : Oper} {a : Act} {Q : Exit → Act → World → Prop} (hgd : o.guard = none) (s y : Operand) (x : Sv) (T : TypeId)
    (ho : o.op = .call { callee := .builtin .append, args := #[s, y], argTypes := #[80, 80] }) (B nb c : Nat) (v : Value) (l : List Sv) (hs : a.eval s = v) (hown : SOwn B W v l) (hx : a.eval y = .slice (some ⟨nb, 0, none⟩) 1 c) (hnb : nb = W.heap.size) (h63 : l.length < 2199023255552) (hB : B ≤ W.heap.size)
    (h : ∀ v' w', SOwn B w' v' (l ++ [x]) → (W.alloc (.cells #[encS x] T)).grownBy w' v.ownBlock → wpList Tryz.prog ops Q rest (a.put o.dst v') w') : wpList Tryz.prog ops Q (o :: rest) a (W.alloc (.cells #[encS x] T)) := by
  subst hnb
  obtain ⟨v', w', h1, h2, h3⟩ := append_srun (w := W.alloc (.cells #[encS x] T)) x W.heap.size c (hown.same fun g _ _ _ _ hg => alloc_old W _ hg) (by simp) (by simp; omega) h63 o.type
  refine wpList_plain hgd fun _ hK => ?_
  unfold Oper.wp execOp
  simp only [ho, resolve, invoke, builtin, Sem.run_bind, Sem.run_pure, Result.andThen_ok, List.map_toArray, List.map_cons, List.map_nil, hs, hx, h1]
  exact hK _ _ (h v' w' h2 h3)
/-- The same in a region that draws its order. -/
theorem exec_append_s {o : Oper} {ev : Operand → Value} {w : World} {B : Nat} {v : Value} {l : List Sv} (x : Sv) (nb c : Nat) (s y : Operand) (ho : o.op = .call { callee := .builtin .append, args := #[s, y], argTypes := #[80, 80] }) (hs : ev s = v) (hy : ev y = .slice (some ⟨nb, 0, none⟩) 1 c)
    (hown : SOwn B w v l) (hx : w.cell? ⟨nb, 0, none⟩ = some (encS x)) (hB : B ≤ w.heap.size) (h63 : l.length < 2199023255552) :
    ∃ v' w', (execOp ev o).run Tryz.prog w = .ok (.value v') w' ∧ SOwn B w' v' (l ++ [x]) ∧ w.grownBy w' v.ownBlock := by
  obtain ⟨v', w', h1, h2, h3⟩ := append_srun x nb c hown hx hB h63 o.type
  exact ⟨v', w', exec_append_run s y _ ho hs hy h1, h2, h3⟩
end Go.Proofs.YthecngkdmnadoaaGreat

/- Numbers written in bytes, and read: plain mathematics. -/
namespace Go.Proofs.YthecngkdmnadoaaGreat

/-- The writing of a number. -/
def uw (n : Nat) : List Nat := if n < 128 then [n] else (n % 128 + 128) :: uw (n / 128)
termination_by n

theorem uw_lt {n : Nat} (h : n < 128) : uw n = [n] := by rw [uw, if_pos h]
theorem uw_ge {n : Nat} (h : 128 ≤ n) : uw n = (n % 128 + 128) :: uw (n / 128) := by rw [uw, if_neg (by omega)]
theorem uw_len : ∀ (k n : Nat), n < 128 ^ k → 0 < k → 0 < (uw n).length ∧ (uw n).length ≤ k
  | 0, _, _, h => by omega
  | 1, n, h, _ => by rw [uw_lt (by simpa using h)]; simp
  | k + 2, n, h, _ => by
    by_cases h1 : n < 128
    · rw [uw_lt h1]; simp
    · rw [uw_ge (by omega)]
      have := uw_len (k + 1) (n / 128) (by rw [Nat.div_lt_iff_lt_mul (by decide)]; rw [Nat.pow_succ] at h; exact h) (by omega)
      simp only [List.length_cons]; omega
theorem uw_len10 {n : Nat} (h : n < 18446744073709551616) : 0 < (uw n).length ∧ (uw n).length ≤ 10 := uw_len 10 n (Nat.lt_of_lt_of_le h (by decide)) (by decide)
theorem uw_byte : ∀ (n : Nat), ∀ x ∈ uw n, x < 256 := by
  intro n
  induction n using Nat.strongRecOn with
  | _ n ih =>
    intro x hx
    by_cases h : n < 128
    · rw [uw_lt h] at hx; simp at hx; omega
    · rw [uw_ge (by omega)] at hx
      rcases List.mem_cons.1 hx with rfl | hx
      · omega
      · exact ih (n / 128) (by omega) x hx

/-- What bytes say as a number from place i on, where the places ahead say n: the number, how many bytes, what is amiss. -/
def num : List Nat → Nat → Nat → Nat × Nat × Nat
  | [], _, _ => (0, 0, 20)
  | c :: r, i, n =>
    if i = 9 ∧ 1 < c then (0, 0, 21) else if 0 < i ∧ c = 0 then (0, 0, 21)
    else if c < 128 then (n + c * 128 ^ i, i + 1, 0) else num r (i + 1) (n + (c - 128) * 128 ^ i)

/-- The same with a bound. -/
def front (xs : List Nat) (most : Nat) : Nat × Nat × Nat :=
  if (num xs 0 0).2.2 = 0 ∧ most < (num xs 0 0).1 then (0, 0, 22) else num xs 0 0

theorem num_form9 {c : Nat} {r : List Nat} {n : Nat} (h : 1 < c) : num (c :: r) 9 n = (0, 0, 21) := by rw [num, if_pos ⟨rfl, h⟩]
theorem num_form0 {r : List Nat} {i n : Nat} (h : 0 < i) : num (0 :: r) i n = (0, 0, 21) := by rw [num, if_neg (by omega), if_pos ⟨h, rfl⟩]
theorem num_last {c : Nat} {r : List Nat} {i n : Nat} (h : c < 128) (h9 : i = 9 → c ≤ 1) (h0 : 0 < i → c ≠ 0) : num (c :: r) i n = (n + c * 128 ^ i, i + 1, 0) := by
  rw [num, if_neg (by omega), if_neg (by omega), if_pos h]
theorem num_more {c : Nat} {r : List Nat} {i n : Nat} (h : 128 ≤ c) (h9 : i ≠ 9) : num (c :: r) i n = num r (i + 1) (n + (c - 128) * 128 ^ i) := by
  rw [num, if_neg (by omega), if_neg (by omega), if_neg (by omega)]

/-- What a reading tells: the size fits, the number is within 64 bits, a failing tells zeros. -/
theorem num_facts : ∀ (xs : List Nat) (i n : Nat), i ≤ 9 → n < 128 ^ i → (∀ x ∈ xs, x < 256) →
    ((num xs i n).2.2 = 0 → i < (num xs i n).2.1 ∧ (num xs i n).2.1 ≤ i + xs.length ∧ (num xs i n).2.1 ≤ 10 ∧ (num xs i n).1 < 18446744073709551616) ∧
    ((num xs i n).2.2 ≠ 0 → (num xs i n).1 = 0 ∧ (num xs i n).2.1 = 0 ∧ ((num xs i n).2.2 = 20 ∨ (num xs i n).2.2 = 21))
  | [], i, n, _, _, _ => by simp [num]
  | c :: r, i, n, hi, hn, hx => by
    rw [num]
    split
    · simp
    split
    · simp
    split
    · rename_i h1 h2 h3
      have hp : n + c * 128 ^ i < 18446744073709551616 := by
        by_cases h9 : i = 9
        · subst h9
          have hc : c ≤ 1 := by omega
          have : c * 128 ^ 9 ≤ 1 * 128 ^ 9 := Nat.mul_le_mul_right _ hc
          have e : (128 : Nat) ^ 9 = 9223372036854775808 := by decide
          omega
        · have : (c + 1) * 128 ^ i ≤ 128 * 128 ^ i := Nat.mul_le_mul_right _ (by omega)
          rw [Nat.add_mul] at this
          have e : 128 * 128 ^ i = 128 ^ (i + 1) := by rw [Nat.pow_succ, Nat.mul_comm]
          have e2 : (128 : Nat) ^ (i + 1) ≤ 128 ^ 9 := Nat.pow_le_pow_right (by decide) (by omega)
          have e3 : (128 : Nat) ^ 9 = 9223372036854775808 := by decide
          omega
      simp only [List.length_cons]
      exact ⟨fun _ => ⟨by omega, by omega, by omega, hp⟩, fun h => absurd rfl h⟩
    · rename_i h1 h2 h3
      have hc : c < 256 := hx c (by simp)
      have hi9 : i ≠ 9 := by omega
      have := num_facts r (i + 1) (n + (c - 128) * 128 ^ i) (by omega) (by
        have : (c - 128 + 1) * 128 ^ i ≤ 128 * 128 ^ i := Nat.mul_le_mul_right _ (by omega)
        rw [Nat.add_mul] at this
        rw [Nat.pow_succ, Nat.mul_comm (128 ^ i)]
        omega) (fun x h => hx x (by simp [h]))
      simp only [List.length_cons]
      exact ⟨fun h => by have := this.1 h; omega, this.2⟩

theorem front_facts (xs : List Nat) (most : Nat) (hx : ∀ x ∈ xs, x < 256) :
    ((front xs most).2.2 = 0 → 0 < (front xs most).2.1 ∧ (front xs most).2.1 ≤ xs.length ∧ (front xs most).2.1 ≤ 10 ∧ (front xs most).1 < 18446744073709551616 ∧ (front xs most).1 ≤ most ∧ front xs most = num xs 0 0) ∧
    ((front xs most).2.2 ≠ 0 → (front xs most).1 = 0 ∧ (front xs most).2.1 = 0 ∧ (front xs most).2.2 < 100) := by
  have h := num_facts xs 0 0 (by decide) (by decide) hx
  unfold front
  split
  · simp
  · rename_i h2
    refine ⟨fun h3 => ?_, fun h3 => ?_⟩
    · have := h.1 h3; exact ⟨by omega, by omega, by omega, by omega, by omega, rfl⟩
    · have := h.2 h3; exact ⟨by omega, by omega, by omega⟩

/-- What was written is read as it was, whatever stands behind. -/
theorem num_uw : ∀ (k m i n : Nat) (r : List Nat), i + k = 10 → m < 128 ^ k → (m * 128 ^ i < 18446744073709551616) → (0 < i → m ≠ 0) → num (uw m ++ r) i n = (n + m * 128 ^ i, i + (uw m).length, 0)
  | 0, m, i, n, r, hk, hm, hb, h0 => by
    have : m = 0 := by simpa using hm
    have := h0 (by omega); omega
  | k + 1, m, i, n, r, hk, hm, hb, h0 => by
    by_cases h : m < 128
    · rw [uw_lt h]
      simp only [List.cons_append, List.nil_append, List.length_singleton]
      refine num_last h (fun h9 => ?_) (fun hi => h0 hi)
      subst h9
      have e : (128 : Nat) ^ 9 = 9223372036854775808 := by decide
      rw [e] at hb; omega
    · have hi9 : i ≠ 9 := by
        intro h9; subst h9
        have e : (128 : Nat) ^ 9 = 9223372036854775808 := by decide
        rw [e] at hb; omega
      rw [uw_ge (by omega), List.cons_append, num_more (by omega) hi9]
      have e1 : m / 128 * 128 ^ (i + 1) + m % 128 * 128 ^ i = m * 128 ^ i := by
        rw [Nat.pow_succ, Nat.mul_comm (128 ^ i) 128, ← Nat.mul_assoc, ← Nat.add_mul]
        congr 1; omega
      rw [num_uw k (m / 128) (i + 1) _ r (by omega) (by rw [Nat.div_lt_iff_lt_mul (by decide)]; rw [Nat.pow_succ] at hm; exact hm) (by omega) (fun _ => by omega)]
      simp only [List.length_cons, Nat.add_sub_cancel]
      refine Prod.ext ?_ (Prod.ext ?_ rfl)
      · show n + m % 128 * 128 ^ i + m / 128 * 128 ^ (i + 1) = n + m * 128 ^ i
        omega
      · show i + 1 + (uw (m / 128)).length = i + ((uw (m / 128)).length + 1)
        omega
theorem num_write {m : Nat} (h : m < 18446744073709551616) (r : List Nat) : num (uw m ++ r) 0 0 = (m, (uw m).length, 0) := by
  have := num_uw 10 m 0 0 r rfl (Nat.lt_of_lt_of_le h (by decide)) (by simpa using h) (fun h => absurd h (by decide))
  simpa using this

/-- What was read is written as the same bytes. -/
theorem num_back : ∀ (xs : List Nat) (i n : Nat), n < 128 ^ i → (∀ x ∈ xs, x < 256) → (num xs i n).2.2 = 0 →
    ∃ m, (num xs i n).1 = n + m * 128 ^ i ∧ xs.take ((num xs i n).2.1 - i) = uw m ∧ (0 < i → m ≠ 0)
  | [], i, n, _, _, h => by simp [num] at h
  | c :: r, i, n, hn, hx, h => by
    rw [num] at h ⊢
    split at h
    · simp at h
    split at h
    · simp at h
    split at h
    · rename_i h1 h2 h3
      rw [if_neg h1, if_neg h2, if_pos h3]
      refine ⟨c, rfl, ?_, fun h0 => by omega⟩
      show List.take (i + 1 - i) (c :: r) = uw c
      rw [uw_lt h3, show i + 1 - i = 1 by omega]; rfl
    · rename_i h1 h2 h3
      rw [if_neg h1, if_neg h2, if_neg h3]
      have hc : c < 256 := hx c (by simp)
      have hn' : n + (c - 128) * 128 ^ i < 128 ^ (i + 1) := by
        have : (c - 128 + 1) * 128 ^ i ≤ 128 * 128 ^ i := Nat.mul_le_mul_right _ (by omega)
        rw [Nat.add_mul] at this
        rw [Nat.pow_succ, Nat.mul_comm (128 ^ i)]
        omega
      have hr : ∀ x ∈ r, x < 256 := fun x h => hx x (by simp [h])
      obtain ⟨m, e1, e2, e3⟩ := num_back r (i + 1) (n + (c - 128) * 128 ^ i) hn' hr h
      have hm := e3 (by omega)
      refine ⟨m * 128 + (c - 128), ?_, ?_, fun _ => by omega⟩
      · rw [e1, Nat.pow_succ, Nat.mul_comm (128 ^ i) 128, ← Nat.mul_assoc, Nat.add_assoc, ← Nat.add_mul, Nat.add_comm (c - 128)]
      · generalize num r (i + 1) (n + (c - 128) * 128 ^ i) = z at *
        have hz : i + 1 < z.2.1 := by
          rcases Nat.lt_or_ge (i + 1) z.2.1 with h | h
          · exact h
          · rw [show z.2.1 - (i + 1) = 0 by omega, List.take_zero] at e2
            have := congrArg List.length e2
            have h3 : 0 < (uw m).length := by unfold uw; split <;> simp
            simp only [List.length_nil] at this
            omega
        rw [show z.2.1 - i = (z.2.1 - (i + 1)) + 1 by omega, List.take_succ_cons, e2, uw_ge (n := m * 128 + (c - 128)) (by omega)]
        rw [show (m * 128 + (c - 128)) % 128 + 128 = c by omega, show (m * 128 + (c - 128)) / 128 = m by omega]
theorem num_again {xs : List Nat} (hx : ∀ x ∈ xs, x < 256) (h : (num xs 0 0).2.2 = 0) : uw (num xs 0 0).1 = xs.take (num xs 0 0).2.1 := by
  obtain ⟨m, e1, e2, _⟩ := num_back xs 0 0 (by decide) hx h
  rw [e1]; simpa using e2.symm
end Go.Proofs.YthecngkdmnadoaaGreat

/- codec.PutUint and the reference's Uint: a number's bytes. -/
namespace Go.Proofs.YthecngkdmnadoaaGreat
open Go.RowKit
set_option maxRecDepth 100000

theorem row_one (w : World) (z : Int) (n : Nat) (hz : z = n) : Row (w.heap.size + 1) (w.alloc (Obj.cells #[.int .u8 z] 5)) (.slice (some ⟨w.heap.size, 0, none⟩) 1 1) [n] := by
  subst hz
  exact ⟨_, _, rfl, by simp, fun h => by (cases h), fun _ => ⟨_, _, rfl, by omega, fun i hi => by
    obtain rfl : i = 0 := by simpa using hi
    simp⟩⟩
theorem Bytes.alloc {B : Nat} {w : World} {v : Value} {xs : List Nat} (h : Bytes B w v xs) (o : Obj) : Bytes B (w.alloc o) v xs := h.below ((Below.refl _ _).alloc (Nat.le_refl _) o)

set_option maxHeartbeats 2000000 in
theorem PutUint_any (B : Nat) (v : Value) (xs : List Nat) (n : Nat) (w : World) (hown : Bytes B w v xs) (hB : B ≤ w.heap.size) (hn : n < 18446744073709551616) (hl : xs.length + 10 ≤ 140737488355328) :
    Calls Tryz.prog 74 #[v, .int .u64 (n : Int)] w fun e w' => ∃ v', e = .returned v' ∧ Bytes B w' v' (xs ++ uw n) ∧ Below B w w' := by
  have hul := uw_len10 hn
  go_enter Tryz.func74, Tryz.ntmps74
  go_wp2
  go_loopw [0, 1] (fun vb vn wr => ∃ (k : Nat) (ys : List Nat), vn = .int .u64 (k : Int) ∧ k < 18446744073709551616 ∧ Bytes B wr vb ys ∧ ys ++ uw k = xs ++ uw n ∧ Below B w wr)
    (fun _ vn _ => (intOf vn).toNat)
  case atStart => exact ⟨n, xs, rfl, hn, hown, rfl, Below.refl _ _⟩
  case round =>
    obtain ⟨k, ys, rfl, hk, hown1, heq, hbel⟩ := hrel
    have hlen : ys.length + (uw k).length = xs.length + (uw n).length := by rw [← List.length_append, heq, List.length_append]
    have hkl := (uw_len10 hk).1
    have HE : Hid (ys ++ uw k = xs ++ uw n) := heq
    have hsz := hbel.size
    clear heq
    by_cases h : 128 ≤ k
    · have HU : Hid (uw k = (k % 128 + 128) :: uw (k / 128)) := uw_ge h
      go_wp2_with (at_builtin; refine append_row (by rfl) _ _ rfl B (wr.heap.size + 1) _ _ ys [k % 128 + 128] rfl (hown1.alloc _) rfl (row_one _ _ _ (by omega)) (by simp; omega) (by simp; omega) ?_)
      intro v1 w1 hown2 hb2 _
      have hb3 : Below B w w1 := (hbel.alloc (by omega) _).trans hb2
      go_wp2
      go_roundw
      case rel =>
        refine ⟨k / 128, ys ++ [k % 128 + 128], by go_num, by omega, hown2, ?_, hb3⟩
        rw [← HE.out, HU.out]; simp
      case measure => simp [intOf]; omega
    · have HU : Hid (uw k = [k]) := uw_lt (by omega)
      go_wp2_with (at_builtin; refine append_row (by rfl) _ _ rfl B (wr.heap.size + 1) _ _ ys [k] rfl (hown1.alloc _) rfl (row_one _ _ _ (by omega)) (by simp; omega) (by simp; omega) ?_)
      intro v1 w1 hown2 hb2 _
      have hb3 : Below B w w1 := (hbel.alloc (by omega) _).trans hb2
      go_wp2
      go_ret
      refine ⟨_, rfl, ?_, hb3⟩
      rw [← HE.out, HU.out]; exact hown2

theorem bytes_one (B : Nat) (w : World) (z : Int) (n : Nat) (hz : z = n) (hB : B ≤ w.heap.size) : Bytes B (w.alloc (Obj.cells #[.int .u8 z] 5)) (.slice (some ⟨w.heap.size, 0, none⟩) 1 1) [n] := by
  subst hz
  exact World.ownsRow_lit w #[bv n] 1 hB (by decide) rfl

set_option maxHeartbeats 2000000 in
theorem PutBytes_any (B N : Nat) (v v2 : Value) (xs ys : List Nat) (w : World) (hown : Bytes B w v xs) (hB : B ≤ w.heap.size) (hrow : Row N w v2 ys) (hN : N ≤ w.heap.size) (hl : xs.length + ys.length + 10 ≤ 140737488355328) :
    Calls Tryz.prog 57 #[v, v2] w fun e w' => ∃ v', e = .returned v' ∧ Bytes B w' v' (xs ++ (uw ys.length ++ ys)) ∧ Below B w w' := by
  have hul := uw_len10 (show ys.length < 18446744073709551616 by omega)
  have HR : Hid (Row N w v2 ys) := hrow
  obtain ⟨ao, cap, rfl, hcap⟩ := hrow.shape
  clear hrow
  go_enter Tryz.func57, Tryz.ntmps57
  go_wp2_with fail
  refine (PutUint_any w.heap.size _ [] ys.length w (Bytes.nil _ _) (Nat.le_refl _) (by omega) (by simp)).mono ?_
  rintro e w1 ⟨v1, rfl, hown1, hb1⟩
  have hs1 := hb1.size
  go_wp2_with (at_builtin; refine append_row (by rfl) _ _ rfl w.heap.size N _ _ (uw ys.length) ys rfl hown1 rfl (HR.out.below (hb1.mono hN)) (by omega) (by omega) ?_)
  intro v3 w3 hown3 hb3 _
  have hb13 := hb1.trans hb3
  have hs3 := hb13.size
  have ho : Bytes B w3 v xs := hown.below hb13
  clear hown1 hb1 hb3
  go_wp2_with (at_builtin; refine append_row (by rfl) _ _ rfl B w3.heap.size _ _ xs (uw ys.length ++ ys) rfl ho rfl hown3.row (by simp; omega) (by omega) ?_)
  intro v4 w4 hown4 hb4 _
  go_wp2_with fail
  go_ret
  exact ⟨_, rfl, hown4, (hb13.mono hB).trans hb4⟩

end Go.Proofs.YthecngkdmnadoaaGreat
