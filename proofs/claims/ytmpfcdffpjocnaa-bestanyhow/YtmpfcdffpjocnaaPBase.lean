/- Cut: what the seat's translation lacks is left out. -/
/- Pairs in memory: rows that are read, rows that the call has made (tpl6's PBase without the sort). -/
import Derived.Test.YtmpfcdffpjocnaaWord
import Derived.Test.YtmpfcdffpjocnaaIMath
import Derived.WalkSmall
import Derived.Deep.LoopGhost
namespace Go.Proofs.Ytmpfcdffpjocnaa
open Go.RowKit Go.Lib Pm
set_option maxRecDepth 100000

/-- A word and a weight. -/
abbrev Pr := ByteArray × Int
def encP (x : Pr) : List Value := [.string x.1, .int .i64 x.2]
def valP (x : Pr) : Value := .agg #[.string x.1, .int .i64 x.2]
theorem valP_enc (x : Pr) : Value.agg (encP x).toArray = valP x := rfl
def lessB (a b : ByteArray) : Bool := Op.bytesLess a.data.toList b.data.toList

theorem bl_irr : ∀ a : List UInt8, Op.bytesLess a a = false
  | [] => by rw [Op.bytesLess.eq_1]
  | a :: x => by rw [Op.bytesLess.eq_3, bl_irr x]; simp
theorem bl_nil (a : List UInt8) : Op.bytesLess a [] = false := by rw [Op.bytesLess.eq_1]
theorem bl_tr : ∀ a b c : List UInt8, Op.bytesLess a b = true → Op.bytesLess b c = true → Op.bytesLess a c = true
  | _, [], _, h, _ => by rw [bl_nil] at h; cases h
  | _, _ :: _, [], _, h => by rw [bl_nil] at h; cases h
  | [], _ :: _, _ :: _, _, _ => by rw [Op.bytesLess.eq_2]
  | a :: x, b :: y, c :: z, h1, h2 => by
    rw [Op.bytesLess.eq_3] at h1 h2 ⊢
    simp only [Bool.or_eq_true, Bool.and_eq_true, decide_eq_true_eq, beq_iff_eq] at h1 h2 ⊢
    rcases h1 with h1 | ⟨rfl, h1⟩
    · rcases h2 with h2 | ⟨rfl, h2⟩
      · exact .inl (UInt8.lt_trans h1 h2)
      · exact .inl h1
    · rcases h2 with h2 | ⟨rfl, h2⟩
      · exact .inl h2
      · exact .inr ⟨rfl, bl_tr x y z h1 h2⟩
theorem bl_tot : ∀ a b : List UInt8, Op.bytesLess a b = false → Op.bytesLess b a = false → a = b
  | [], [], _, _ => rfl
  | [], _ :: _, h, _ => by rw [Op.bytesLess.eq_2] at h; cases h
  | _ :: _, [], _, h => by rw [Op.bytesLess.eq_2] at h; cases h
  | a :: x, b :: y, h1, h2 => by
    rw [Op.bytesLess.eq_3] at h1 h2
    simp only [Bool.or_eq_false_iff, Bool.and_eq_false_iff, decide_eq_false_iff_not, beq_eq_false_iff_ne] at h1 h2
    have e : a = b := UInt8.le_antisymm (UInt8.not_lt.1 h2.1) (UInt8.not_lt.1 h1.1)
    subst e
    rw [bl_tot x y (h1.2.resolve_left (fun h => h rfl)) (h2.2.resolve_left (fun h => h rfl))]
theorem ba_ext {a b : ByteArray} (h : a.data.toList = b.data.toList) : a = b := by
  cases a; cases b; simp only [ByteArray.mk.injEq] at h ⊢; exact Array.toList_inj.1 h
theorem lessB_sto : STO lessB := ⟨fun _ => bl_irr _, fun _ _ _ => bl_tr _ _ _, fun _ _ h1 h2 => ba_ext (bl_tot _ _ h1 h2)⟩
theorem strEq (a b : ByteArray) : (a.toList == b.toList) = decide (a = b) := by
  rw [Bool.eq_iff_iff, beq_iff_eq, decide_eq_true_iff, ByteArray.toList_eq, ByteArray.toList_eq]
  exact ⟨ba_ext, fun h => by rw [h]⟩

theorem pless_any (a b : ByteArray) (w : World) : Calls Try.prog 21 #[.string a, .string b] w fun e w' => e = .returned (.bool (lessB a b)) ∧ w' = w := by
  have HL : Hid (Op.bytesLess a.toList b.toList = lessB a b) := by
    show Op.bytesLess _ _ = _
    rw [ByteArray.toList_eq, ByteArray.toList_eq]; rfl
  go_enter Try.func21, Try.ntmps21
  go_wp2
  go_ret
  exact ⟨by rw [HL.out]; rfl, rfl⟩
section
variable (ρ : Operand → Value) (x y : Operand) (dst : Option Tmp) (ty : TypeId) (pos : String) (af : Array Edge) (g : Option (Nat × Bool)) (w : World)
end
theorem encP_k (x : Pr) : (encP x).length = 2 := rfl
theorem encP_one (x : Pr) : ∀ v ∈ encP x, v.oneCell' = true := by intro v hv; simp [encP] at hv; rcases hv with rfl | rfl <;> rfl
theorem mixedP : Try.prog.follows .mixedOrders = true := by kernel_rfl
end Go.Proofs.Ytmpfcdffpjocnaa
