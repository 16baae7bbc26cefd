/- A machine's dictionary is one. -/
import Derived.Test.YtllmdfkiogmofaaGreatDoorK1
namespace Go.Proofs.YtllmdfkiogmofaaGreatDoor.Pk
open Go.Proofs.YtllmdfkiogmofaaGreatDoor.Nums Go.Proofs.YtllmdfkiogmofaaGreatDoor.Fm Go.Proofs.YtllmdfkiogmofaaGreatDoor

theorem byte_one {x y : Nat} (hx : x < 256) (hy : y < 256) (e : UInt8.ofNat x = UInt8.ofNat y) : x = y := by
  have := congrArg UInt8.toNat e
  simp only [UInt8.toNat_ofNat'] at this
  omega
theorem bytes_one : ∀ (xs ys : List Nat), (∀ x ∈ xs, x < 256) → (∀ y ∈ ys, y < 256) → xs.map (fun n => UInt8.ofNat n) = ys.map (fun n => UInt8.ofNat n) → xs = ys
  | [], [], _, _, _ => rfl
  | [], _ :: _, _, _, h => by simp at h
  | _ :: _, [], _, _, h => by simp at h
  | x :: l, y :: m, h1, h2, h => by
    simp only [List.map_cons, List.cons.injEq] at h
    rw [byte_one (h1 x (by simp)) (h2 y (by simp)) h.1, bytes_one l m (fun z hz => h1 z (by simp [hz])) (fun z hz => h2 z (by simp [hz])) h.2]
theorem strB_one {xs ys : List Nat} (h1 : ∀ x ∈ xs, x < 256) (h2 : ∀ y ∈ ys, y < 256) (e : Cd.strB xs = Cd.strB ys) : xs = ys := by
  refine bytes_one xs ys h1 h2 ?_
  have := congrArg (fun b : ByteArray => b.data.toList) e
  simp only [Cd.strB, Go.strOfNums_data, List.map_map] at this
  exact this
end Go.Proofs.YtllmdfkiogmofaaGreatDoor.Pk
