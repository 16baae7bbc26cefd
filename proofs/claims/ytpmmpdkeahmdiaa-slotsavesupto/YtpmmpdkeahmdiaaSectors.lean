/- One more than the greatest number of an area's sectors. -/
import Derived.Test.YtpmmpdkeahmdiaaCount
namespace Go.Proofs.Ytpmmpdkeahmdiaa
open Go.RowKit
set_option maxRecDepth 100000

/-- One more than the greatest of the numbers; 0 of none. -/
def topS : List Int → Int
  | [] => 0
  | k :: r => max (k + 1) (topS r)
theorem topS_nonneg : ∀ ks : List Int, 0 ≤ topS ks
  | [] => Int.le_refl _
  | k :: r => by have := topS_nonneg r; simp only [topS]; omega
theorem topS_mem : ∀ (ks : List Int) (k : Int), k ∈ ks → k + 1 ≤ topS ks
  | k0 :: r, k, h => by
    simp only [topS]
    rcases List.mem_cons.1 h with rfl | h
    · omega
    · have := topS_mem r k h; omega
theorem topS_le : ∀ (ks : List Int) (e : Int), 0 ≤ e → (∀ k ∈ ks, k + 1 ≤ e) → topS ks ≤ e
  | [], e, h0, _ => h0
  | k :: r, e, h0, h => by
    have h1 := h k (.head _)
    have h2 := topS_le r e h0 fun k hk => h k (.tail _ hk)
    simp only [topS]
    omega
theorem topS_same {A B : List Int} (h : ∀ k, k ∈ A ↔ k ∈ B) : topS A = topS B :=
  Int.le_antisymm (topS_le _ _ (topS_nonneg _) fun k hk => topS_mem _ k ((h k).1 hk)) (topS_le _ _ (topS_nonneg _) fun k hk => topS_mem _ k ((h k).2 hk))
theorem topS_snoc (A : List Int) (k : Int) : topS (A ++ [k]) = max (topS A) (k + 1) := by
  refine Int.le_antisymm (topS_le _ _ ?_ fun x hx => ?_) ?_
  · have := topS_nonneg A; omega
  · rcases List.mem_append.1 hx with hx | hx
    · have := topS_mem A x hx; omega
    · rw [List.mem_singleton] at hx; subst hx; omega
  · have h1 : topS A ≤ topS (A ++ [k]) := topS_le _ _ (topS_nonneg _) fun x hx => topS_mem _ x (List.mem_append_left _ hx)
    have h2 : k + 1 ≤ topS (A ++ [k]) := topS_mem _ k (List.mem_append_right _ (.head _))
    omega
/-- One more than the greatest number of the area's sectors. -/
def endS (a : Int) (S : List Sec) : Int := topS ((S.filter fun s => s.area = a).map (·.n))
theorem range_L {w : World} {sh : Sh} (h : Held w sh) (a : Int) : ∃ ob, (Instr.range 88 (atA a sh.L)).run Try.prog w = .ok (.pointer (some ⟨w.heap.size, 0, none⟩)) (w.alloc ob) ∧ Ranges .i64 verV (w.alloc ob) (boOf a sh.L) w.heap.size (inL sh a) [] := by
  unfold atA inL boOf
  cases hm : mget a sh.L with
  | none => exact range_none verV Try.underlying88
  | some x => exact (h.hli _ (mem_keys_of_mget hm)).1.range Try.underlying88
theorem end_eq {w : World} {sh : Sh} {S : List Sec} (h : Held w sh) (hr : Rep sh S) (a : Int) {dl : List (Int × List Nat)} {df : List (Int × FS)} (hl : AllIn (inL sh a) dl) (hl2 : ∀ p ∈ dl, p ∈ inL sh a) (hf : AllIn (inF sh a) df) (hf2 : ∀ p ∈ df, p ∈ inF sh a) :
    topS (keys dl ++ keys df) = endS a S := by
  refine topS_same fun n => ?_
  rw [(secs_keys hr.sorted a).2, find_in_maps h hr, List.mem_append]
  have h1 : n ∈ keys dl ↔ n ∈ keys (inL sh a) := ⟨fun hx => by
      obtain ⟨p, hp, rfl⟩ := List.mem_map.1 hx
      exact List.mem_map.2 ⟨p, hl2 p hp, rfl⟩, fun hx => by
      obtain ⟨p, hp, rfl⟩ := List.mem_map.1 hx
      exact List.mem_map.2 ⟨p, hl p hp, rfl⟩⟩
  have h2 : n ∈ keys df ↔ n ∈ keys (inF sh a) := ⟨fun hx => by
      obtain ⟨p, hp, rfl⟩ := List.mem_map.1 hx
      exact List.mem_map.2 ⟨p, hf2 p hp, rfl⟩, fun hx => by
      obtain ⟨p, hp, rfl⟩ := List.mem_map.1 hx
      exact List.mem_map.2 ⟨p, hf p hp, rfl⟩⟩
  rw [h1, h2]
/-- The numbers of sectors are in their bounds. -/
def SecsOk (S : List Sec) : Prop := ∀ s ∈ S, 0 ≤ s.n ∧ s.n < 16777216
theorem key_ok {w : World} {sh : Sh} {S : List Sec} (h : Held w sh) (hr : Rep sh S) (ho : SecsOk S) {a n : Int} (hk : n ∈ keys (inL sh a) ∨ n ∈ keys (inF sh a)) : 0 ≤ n ∧ n < 16777216 := by
  obtain ⟨s, hs⟩ := Option.isSome_iff_exists.1 ((find_in_maps h hr a n).2 hk)
  have := ho s (findS_mem hs)
  rw [(findS_at hs).2] at this
  exact this
attribute [local go_sem ↓] exec_alloc_ver exec_box_ver exec_load_ver exec_store_ver exec_copy_ver
attribute [local go_sem] verV_cells
set_option maxHeartbeats 8000000 in
theorem Sectors_any (N : Nat) (p : Nat) (d : DS) (fp : List Nat) (a : Int) (w : World) (h : DiskAt N w p d fp) (ho : SecsOk d.secs) :
    Calls Try.prog 43 #[.pointer (some ⟨p, 0, none⟩), .int .u64 a] w fun e w' => e = .returned (.int .i64 (endS a d.secs)) ∧ Below w.heap.size w w' := by
  obtain ⟨sh, h1, h2, h3, _⟩ := h
  obtain ⟨c0, c1, c2, c3, c4, c5, c6, c7, hz⟩ := disk_cells h1
  have hpl : p < w.heap.size := (Array.getElem?_eq_some_iff.1 h1).1
  have HH : Hid (Held w sh) := h2
  have HR : Hid (Rep sh d.secs) := h3
  have HO : Hid (SecsOk d.secs) := ho
  have hL := look_L h2 a
  have C7 : Hid (w.cell? ⟨p, 7, none⟩ = some (.map (some sh.fb))) := c7
  clear h1 h2 h3 ho c0 c1 c2 c3 c4 c5 c7 hz
  go_enter Try.func43, Try.ntmps43
  go_wp2_with (at_range; refine wpList_range_at (range_L HH.out a) rfl _ rfl rfl ?_)
  intro ob hrg
  have hb0 : Below w.heap.size w (w.alloc ob) := (Below.refl _ _).alloc (Nat.le_refl _) _
  have HG : Hid (Ranges .i64 verV (w.alloc ob) (boOf a sh.L) w.heap.size (inL sh a) [] ∧ Below w.heap.size w (w.alloc ob)) := ⟨hrg, hb0⟩
  clear hrg hb0 hL c6
  go_wp2_with fail
  go_loopw [5] (fun v wr => ∃ (t : Int) (dl : List (Int × List Nat)), v = .int .i64 t ∧ t = topS (keys dl) ∧ 0 ≤ t ∧ t ≤ 16777216 ∧ Ranges .i64 verV wr (boOf a sh.L) w.heap.size (inL sh a) dl ∧ Below w.heap.size w wr) (fun _ wr => (inL sh a).length - seenAt wr w.heap.size)
  case atStart => exact ⟨0, [], rfl, rfl, by omega, by omega, HG.out.1, HG.out.2⟩
  case round =>
    obtain ⟨t, dl, rfl, ht, ht0, ht1, hrg, hb⟩ := hrel
    have HT : Hid (t = topS (keys dl)) := ht
    have HB : Hid (Below w.heap.size w wr) := hb
    have HRG : Hid (Ranges .i64 verV wr (boOf a sh.L) w.heap.size (inL sh a) dl) := hrg
    clear hrg hb ht HG
    go_wp2_with (at_next; refine wpList_next_at HRG.out rfl _ rfl rfl ?_ ?_)
    · intro hall
      have hs := HRG.out.seen
      have HA : Hid (AllIn (inL sh a) dl ∧ ∀ p ∈ dl, p ∈ inL sh a) := ⟨hall, hs.2.2.2⟩
      have hh1 : Held wr sh := HH.out.same fun b hb => HB.out.block b (HH.out.lt b hb)
      have c7 : wr.cell? ⟨p, 7, none⟩ = some (.map (some sh.fb)) := (HB.out.cell (p := ⟨p, 7, none⟩) hpl).trans C7.out
      have hF := look_F hh1 a
      have hsz : w.heap.size ≤ wr.heap.size := HB.out.size
      have HH1 : Hid (Held wr sh) := hh1
      clear hall hs hh1 HRG
      go_wp2_with (at_range; refine wpList_range_at (range_F HH1.out a) rfl _ rfl rfl ?_)
      intro ob2 hrg2
      have hb2 : Below w.heap.size w (wr.alloc ob2) := HB.out.alloc hsz _
      obtain ⟨r2, hr2⟩ : ∃ r2, wr.heap.size = r2 := ⟨_, rfl⟩
      rw [hr2] at hrg2 hsz
      have HG : Hid (Ranges .i64 fsV (wr.alloc ob2) (boOf a sh.F) r2 (inF sh a) [] ∧ Below w.heap.size w (wr.alloc ob2)) := ⟨hrg2, hb2⟩
      clear hrg2 hb2 hF c7
      go_wp2_with fail
      rw [hr2]
      go_loopw [5] (fun v wr => ∃ (t : Int) (df : List (Int × FS)), v = .int .i64 t ∧ t = topS (keys dl ++ keys df) ∧ 0 ≤ t ∧ t ≤ 16777216 ∧ Ranges .i64 fsV wr (boOf a sh.F) r2 (inF sh a) df ∧ Below w.heap.size w wr) (fun _ wr => (inF sh a).length - seenAt wr r2)
      case atStart => exact ⟨t, [], rfl, by simpa [keys] using HT.out, ht0, ht1, HG.out.1, HG.out.2⟩
      case round =>
        clear HT ht0 ht1 HG
        obtain ⟨t, df, rfl, ht, ht0, ht1, hrg, hb⟩ := hrel
        have HT : Hid (t = topS (keys dl ++ keys df)) := ht
        have HB : Hid (Below w.heap.size w wr) := hb
        have HRG : Hid (Ranges .i64 fsV wr (boOf a sh.F) r2 (inF sh a) df) := hrg
        clear hrg hb ht
        go_wp2_with (at_next; refine wpList_next_at HRG.out rfl _ rfl rfl ?_ ?_)
        · intro hall
          have hs := HRG.out.seen
          have HE : Hid (topS (keys dl ++ keys df) = endS a d.secs) := end_eq HH.out HR.out a HA.out.1 HA.out.2 hall hs.2.2.2
          clear hall hs
          go_wp2_with fail
          go_ret
          exact ⟨by rw [← HE.out, ← HT.out]; simp, HB.out⟩
        · intro q qv w' hq hk hr3 hone hen
          have hbw : Below w.heap.size w w' := HB.out.trans ⟨hone.os, hone.tape, hone.output, Nat.le_of_eq hone.size.symm, fun k hk => hone.block k (by omega)⟩
          have hqb := key_ok HH.out HR.out HO.out (a := a) (n := q) (.inr (List.mem_map.2 ⟨_, hq, rfl⟩))
          obtain ⟨hq0, hq1⟩ := hqb
          have HR2 : Hid (Ranges .i64 fsV w' (boOf a sh.F) r2 (inF sh a) (df ++ [(q, qv)])) := hr3
          have HBW : Hid (Below w.heap.size w w') := hbw
          clear hr3 hbw hone hq hk
          go_wp2_with fail
          refine ⟨⟨_, df ++ [(q, qv)], rfl, ?_, by split <;> omega, by split <;> omega, HR2.out, HBW.out⟩, ?_⟩
          · have := topS_snoc (keys dl ++ keys df) q
            rw [← HT.out] at this
            simp only [keys, List.map_append, List.map_cons, List.map_nil, List.append_assoc] at this ⊢
            rw [this]
            split <;> omega
          · have s1 := HR2.out.seen
            have s2 := HRG.out.seen
            have := s1.2.1
            rw [s1.1, s2.1]
            simp at this ⊢
            omega
    · intro q qv w' hq hk hr2 hone hen
      have hbw : Below w.heap.size w w' := HB.out.trans ⟨hone.os, hone.tape, hone.output, Nat.le_of_eq hone.size.symm, fun k hk => hone.block k (by omega)⟩
      have hqb := key_ok HH.out HR.out HO.out (a := a) (n := q) (.inl (List.mem_map.2 ⟨_, hq, rfl⟩))
      obtain ⟨hq0, hq1⟩ := hqb
      have HR2 : Hid (Ranges .i64 verV w' (boOf a sh.L) w.heap.size (inL sh a) (dl ++ [(q, qv)])) := hr2
      have HBW : Hid (Below w.heap.size w w') := hbw
      clear hr2 hbw hone hq hk
      go_wp2_with fail
      refine ⟨⟨_, dl ++ [(q, qv)], rfl, ?_, by split <;> omega, by split <;> omega, HR2.out, HBW.out⟩, ?_⟩
      · have := topS_snoc (keys dl) q
        rw [← HT.out] at this
        simp only [keys, List.map_append, List.map_cons, List.map_nil] at this ⊢
        rw [this]
        split <;> omega
      · have s1 := HR2.out.seen
        have s2 := HRG.out.seen
        have := s1.2.1
        rw [s1.1, s2.1]
        simp at this ⊢
        omega
end Go.Proofs.Ytpmmpdkeahmdiaa
