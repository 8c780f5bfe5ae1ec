/- Permission texts: the reference's Show. -/
import Derived.Test.YtinhdabfiahjpaaPs
namespace Go.Proofs.Ytinhdabfiahjpaa
open Go.Joins Go.RowKit

theorem take_step (m : Int) (j k : Nat) (h : k + j = 8) {c : UInt8} (hc : pmBit m k = c) {u v : ByteArray} (hu : u = str ((pmShow m).take j)) (hv : v = str [c]) : u ++ v = str ((pmShow m).take (j + 1)) := by
  rw [hu, hv, str_append, shows_take m j (by omega), show 8 - j = k by omega, hc]

set_option maxHeartbeats 4000000 in
set_option maxRecDepth 100000 in
theorem pfShow_any (mode : Int) (w : World) :
    Calls Try.prog 32 #[.int .i64 mode] w fun e w' => e = .returned (.string (str (pmShow mode))) ∧ w = w' := by
  go_enter Try.func32, Try.ntmps32
  go_wp2_with fail
  go_loopw [3, 4] (fun s v wr => ∃ (j : Nat) (u : ByteArray), j ≤ 9 ∧ v = .int .i64 (8 - (j : Int)) ∧ s = .string u ∧ u = str ((pmShow mode).take j) ∧ u.size ≤ 9 ∧ wr = w) (fun _ v _ => (intOf v + 1).toNat)
  case atStart => exact ⟨0, ⟨#[]⟩, by omega, rfl, rfl, rfl, by decide, rfl⟩
  case round =>
    obtain ⟨j, u, hj, rfl, rfl, hu, hul, rfl⟩ := hrel
    have hsz : u.size = j := by rw [hu, str_size, List.length_take, pmShow_len]; omega
    have HU := Lib.hid hu
    have HZ := Lib.hid hsz
    clear hu hsz
    rcases (show j = 0 ∨ j = 1 ∨ j = 2 ∨ j = 3 ∨ j = 4 ∨ j = 5 ∨ j = 6 ∨ j = 7 ∨ j = 8 ∨ j = 9 by omega) with rfl | rfl | rfl | rfl | rfl | rfl | rfl | rfl | rfl | rfl
    · rcases bit_cases mode 8 with ⟨h2, h3⟩ | ⟨h2, h3⟩
      · have h1 : (bits .and .i64 (mode / 256) 1 == 1) = false := by
          rw [and_1]
          simp at h2 ⊢
          omega
        have HS := Lib.hid (take_step mode 0 8 (by omega) h3 HU.out (v := ⟨#[45]⟩) (by first | rfl | decide))
        have hz := HZ.out
        clear h2 h3
        go_wp2_with fail
        go_roundw
        case rel => exact ⟨1, _, by omega, rfl, rfl, HS.out, by rw [ByteArray.size_append, hz]; decide, trivial⟩
        case measure => simp [intOf]
      · have h1 : (bits .and .i64 (mode / 256) 1 == 1) = true := by
          rw [and_1]
          simp at h2 ⊢
          omega
        have HS := Lib.hid (take_step mode 0 8 (by omega) h3 HU.out (v := (⟨#[114, 119, 120, 114, 119, 120, 114, 119, 120]⟩ : ByteArray).extract 0 1) (by first | rfl | decide))
        have hz := HZ.out
        clear h2 h3
        go_wp2_with fail
        go_roundw
        case rel => exact ⟨1, _, by omega, rfl, rfl, HS.out, by rw [ByteArray.size_append, hz]; decide, trivial⟩
        case measure => simp [intOf]
    · rcases bit_cases mode 7 with ⟨h2, h3⟩ | ⟨h2, h3⟩
      · have h1 : (bits .and .i64 (mode / 128) 1 == 1) = false := by
          rw [and_1]
          simp at h2 ⊢
          omega
        have HS := Lib.hid (take_step mode 1 7 (by omega) h3 HU.out (v := ⟨#[45]⟩) (by first | rfl | decide))
        have hz := HZ.out
        clear h2 h3
        go_wp2_with fail
        go_roundw
        case rel => exact ⟨2, _, by omega, rfl, rfl, HS.out, by rw [ByteArray.size_append, hz]; decide, trivial⟩
        case measure => simp [intOf]
      · have h1 : (bits .and .i64 (mode / 128) 1 == 1) = true := by
          rw [and_1]
          simp at h2 ⊢
          omega
        have HS := Lib.hid (take_step mode 1 7 (by omega) h3 HU.out (v := (⟨#[114, 119, 120, 114, 119, 120, 114, 119, 120]⟩ : ByteArray).extract 1 2) (by first | rfl | decide))
        have hz := HZ.out
        clear h2 h3
        go_wp2_with fail
        go_roundw
        case rel => exact ⟨2, _, by omega, rfl, rfl, HS.out, by rw [ByteArray.size_append, hz]; decide, trivial⟩
        case measure => simp [intOf]
    · rcases bit_cases mode 6 with ⟨h2, h3⟩ | ⟨h2, h3⟩
      · have h1 : (bits .and .i64 (mode / 64) 1 == 1) = false := by
          rw [and_1]
          simp at h2 ⊢
          omega
        have HS := Lib.hid (take_step mode 2 6 (by omega) h3 HU.out (v := ⟨#[45]⟩) (by first | rfl | decide))
        have hz := HZ.out
        clear h2 h3
        go_wp2_with fail
        go_roundw
        case rel => exact ⟨3, _, by omega, rfl, rfl, HS.out, by rw [ByteArray.size_append, hz]; decide, trivial⟩
        case measure => simp [intOf]
      · have h1 : (bits .and .i64 (mode / 64) 1 == 1) = true := by
          rw [and_1]
          simp at h2 ⊢
          omega
        have HS := Lib.hid (take_step mode 2 6 (by omega) h3 HU.out (v := (⟨#[114, 119, 120, 114, 119, 120, 114, 119, 120]⟩ : ByteArray).extract 2 3) (by first | rfl | decide))
        have hz := HZ.out
        clear h2 h3
        go_wp2_with fail
        go_roundw
        case rel => exact ⟨3, _, by omega, rfl, rfl, HS.out, by rw [ByteArray.size_append, hz]; decide, trivial⟩
        case measure => simp [intOf]
    · rcases bit_cases mode 5 with ⟨h2, h3⟩ | ⟨h2, h3⟩
      · have h1 : (bits .and .i64 (mode / 32) 1 == 1) = false := by
          rw [and_1]
          simp at h2 ⊢
          omega
        have HS := Lib.hid (take_step mode 3 5 (by omega) h3 HU.out (v := ⟨#[45]⟩) (by first | rfl | decide))
        have hz := HZ.out
        clear h2 h3
        go_wp2_with fail
        go_roundw
        case rel => exact ⟨4, _, by omega, rfl, rfl, HS.out, by rw [ByteArray.size_append, hz]; decide, trivial⟩
        case measure => simp [intOf]
      · have h1 : (bits .and .i64 (mode / 32) 1 == 1) = true := by
          rw [and_1]
          simp at h2 ⊢
          omega
        have HS := Lib.hid (take_step mode 3 5 (by omega) h3 HU.out (v := (⟨#[114, 119, 120, 114, 119, 120, 114, 119, 120]⟩ : ByteArray).extract 3 4) (by first | rfl | decide))
        have hz := HZ.out
        clear h2 h3
        go_wp2_with fail
        go_roundw
        case rel => exact ⟨4, _, by omega, rfl, rfl, HS.out, by rw [ByteArray.size_append, hz]; decide, trivial⟩
        case measure => simp [intOf]
    · rcases bit_cases mode 4 with ⟨h2, h3⟩ | ⟨h2, h3⟩
      · have h1 : (bits .and .i64 (mode / 16) 1 == 1) = false := by
          rw [and_1]
          simp at h2 ⊢
          omega
        have HS := Lib.hid (take_step mode 4 4 (by omega) h3 HU.out (v := ⟨#[45]⟩) (by first | rfl | decide))
        have hz := HZ.out
        clear h2 h3
        go_wp2_with fail
        go_roundw
        case rel => exact ⟨5, _, by omega, rfl, rfl, HS.out, by rw [ByteArray.size_append, hz]; decide, trivial⟩
        case measure => simp [intOf]
      · have h1 : (bits .and .i64 (mode / 16) 1 == 1) = true := by
          rw [and_1]
          simp at h2 ⊢
          omega
        have HS := Lib.hid (take_step mode 4 4 (by omega) h3 HU.out (v := (⟨#[114, 119, 120, 114, 119, 120, 114, 119, 120]⟩ : ByteArray).extract 4 5) (by first | rfl | decide))
        have hz := HZ.out
        clear h2 h3
        go_wp2_with fail
        go_roundw
        case rel => exact ⟨5, _, by omega, rfl, rfl, HS.out, by rw [ByteArray.size_append, hz]; decide, trivial⟩
        case measure => simp [intOf]
    · rcases bit_cases mode 3 with ⟨h2, h3⟩ | ⟨h2, h3⟩
      · have h1 : (bits .and .i64 (mode / 8) 1 == 1) = false := by
          rw [and_1]
          simp at h2 ⊢
          omega
        have HS := Lib.hid (take_step mode 5 3 (by omega) h3 HU.out (v := ⟨#[45]⟩) (by first | rfl | decide))
        have hz := HZ.out
        clear h2 h3
        go_wp2_with fail
        go_roundw
        case rel => exact ⟨6, _, by omega, rfl, rfl, HS.out, by rw [ByteArray.size_append, hz]; decide, trivial⟩
        case measure => simp [intOf]
      · have h1 : (bits .and .i64 (mode / 8) 1 == 1) = true := by
          rw [and_1]
          simp at h2 ⊢
          omega
        have HS := Lib.hid (take_step mode 5 3 (by omega) h3 HU.out (v := (⟨#[114, 119, 120, 114, 119, 120, 114, 119, 120]⟩ : ByteArray).extract 5 6) (by first | rfl | decide))
        have hz := HZ.out
        clear h2 h3
        go_wp2_with fail
        go_roundw
        case rel => exact ⟨6, _, by omega, rfl, rfl, HS.out, by rw [ByteArray.size_append, hz]; decide, trivial⟩
        case measure => simp [intOf]
    · rcases bit_cases mode 2 with ⟨h2, h3⟩ | ⟨h2, h3⟩
      · have h1 : (bits .and .i64 (mode / 4) 1 == 1) = false := by
          rw [and_1]
          simp at h2 ⊢
          omega
        have HS := Lib.hid (take_step mode 6 2 (by omega) h3 HU.out (v := ⟨#[45]⟩) (by first | rfl | decide))
        have hz := HZ.out
        clear h2 h3
        go_wp2_with fail
        go_roundw
        case rel => exact ⟨7, _, by omega, rfl, rfl, HS.out, by rw [ByteArray.size_append, hz]; decide, trivial⟩
        case measure => simp [intOf]
      · have h1 : (bits .and .i64 (mode / 4) 1 == 1) = true := by
          rw [and_1]
          simp at h2 ⊢
          omega
        have HS := Lib.hid (take_step mode 6 2 (by omega) h3 HU.out (v := (⟨#[114, 119, 120, 114, 119, 120, 114, 119, 120]⟩ : ByteArray).extract 6 7) (by first | rfl | decide))
        have hz := HZ.out
        clear h2 h3
        go_wp2_with fail
        go_roundw
        case rel => exact ⟨7, _, by omega, rfl, rfl, HS.out, by rw [ByteArray.size_append, hz]; decide, trivial⟩
        case measure => simp [intOf]
    · rcases bit_cases mode 1 with ⟨h2, h3⟩ | ⟨h2, h3⟩
      · have h1 : (bits .and .i64 (mode / 2) 1 == 1) = false := by
          rw [and_1]
          simp at h2 ⊢
          omega
        have HS := Lib.hid (take_step mode 7 1 (by omega) h3 HU.out (v := ⟨#[45]⟩) (by first | rfl | decide))
        have hz := HZ.out
        clear h2 h3
        go_wp2_with fail
        go_roundw
        case rel => exact ⟨8, _, by omega, rfl, rfl, HS.out, by rw [ByteArray.size_append, hz]; decide, trivial⟩
        case measure => simp [intOf]
      · have h1 : (bits .and .i64 (mode / 2) 1 == 1) = true := by
          rw [and_1]
          simp at h2 ⊢
          omega
        have HS := Lib.hid (take_step mode 7 1 (by omega) h3 HU.out (v := (⟨#[114, 119, 120, 114, 119, 120, 114, 119, 120]⟩ : ByteArray).extract 7 8) (by first | rfl | decide))
        have hz := HZ.out
        clear h2 h3
        go_wp2_with fail
        go_roundw
        case rel => exact ⟨8, _, by omega, rfl, rfl, HS.out, by rw [ByteArray.size_append, hz]; decide, trivial⟩
        case measure => simp [intOf]
    · rcases bit_cases mode 0 with ⟨h2, h3⟩ | ⟨h2, h3⟩
      · have h1 : (bits .and .i64 (mode) 1 == 1) = false := by
          rw [and_1]
          simp at h2 ⊢
          omega
        have HS := Lib.hid (take_step mode 8 0 (by omega) h3 HU.out (v := ⟨#[45]⟩) (by first | rfl | decide))
        have hz := HZ.out
        clear h2 h3
        go_wp2_with fail
        go_roundw
        case rel => exact ⟨9, _, by omega, rfl, rfl, HS.out, by rw [ByteArray.size_append, hz]; decide, trivial⟩
        case measure => simp [intOf]
      · have h1 : (bits .and .i64 (mode) 1 == 1) = true := by
          rw [and_1]
          simp at h2 ⊢
          omega
        have HS := Lib.hid (take_step mode 8 0 (by omega) h3 HU.out (v := (⟨#[114, 119, 120, 114, 119, 120, 114, 119, 120]⟩ : ByteArray).extract 8 9) (by first | rfl | decide))
        have hz := HZ.out
        clear h2 h3
        go_wp2_with fail
        go_roundw
        case rel => exact ⟨9, _, by omega, rfl, rfl, HS.out, by rw [ByteArray.size_append, hz]; decide, trivial⟩
        case measure => simp [intOf]
    · have hu : u = str (pmShow mode) := by
        have h := HU.out
        rwa [List.take_of_length_le (by rw [pmShow_len]; omega)] at h
      clear HU HZ
      go_wp2_with fail
      go_ret
      exact ⟨by rw [← hu]; rfl, rfl⟩
end Go.Proofs.Ytinhdabfiahjpaa
