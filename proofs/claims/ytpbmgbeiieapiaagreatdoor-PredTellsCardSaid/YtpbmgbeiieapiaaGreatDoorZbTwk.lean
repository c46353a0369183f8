/-
  Layer 4: the chapter's examples, plainly.
-/
import Derived.Test.YtpbmgbeiieapiaaGreatDoorZbTdy

namespace Go.Proofs.YtpbmgbeiieapiaaGreatDoor
open Go Go.RowKit
set_option linter.unusedVariables false

theorem dec1 {n : Nat} (h : n < 10) : Lib.decDigits n = [UInt8.ofNat (48 + n)] := by rw [Lib.decDigits, dif_pos h]
theorem num_one {n : Nat} (hn : n < 10) (r : List UInt8) (hr : ∀ c, r[0]? = some c → isDig c = false) : numS (UInt8.ofNat (48 + n) :: r) = some (n, r) := by
  have hd : isDig (UInt8.ofNat (48 + n)) = true := by
    rw [isDig_iff]
    have : (UInt8.ofNat (48 + n)).toNat = 48 + n := by simp; omega
    omega
  have h0 := (DgI.zero (UInt8.ofNat (48 + n) :: r)).step (c := UInt8.ofNat (48 + n)) rfl hd (by have := (UInt8.ofNat (48 + n)).toNat_lt; omega)
  have e : 0 * 10 + ((UInt8.ofNat (48 + n)).toNat - 48) = n := by simp; omega
  rw [e] at h0
  rw [h0.done (by simp) (fun c hc => hr c (by simpa using hc)), if_pos ⟨by omega, by rw [dec1 hn]; rfl⟩]
  rfl

def exT : T := .node 6 0 0 [.node 2 7 0 [], .node 5 0 0 [.node 4 3 1 []]]
theorem ex1 : ansT (readT [38, 40, 120, 60, 61, 55, 44, 33, 118, 37, 51, 61, 49, 41]) = (exT, 0) := by
  have n7 : numS [55, 44, 33, 118, 37, 51, 61, 49, 41] = some (7, [44, 33, 118, 37, 51, 61, 49, 41]) := num_one (n := 7) (by omega) _ (by intro c h; injection h with h; subst h; rfl)
  have n3 : numS [51, 61, 49, 41] = some (3, [61, 49, 41]) := num_one (n := 3) (by omega) _ (by intro c h; injection h with h; subst h; rfl)
  have n1 : numS [49, 41] = some (1, [41]) := num_one (n := 1) (by omega) _ (by intro c h; injection h with h; subst h; rfl)
  have a1 : rdS 7 [120, 60, 61, 55, 44, 33, 118, 37, 51, 61, 49, 41] = some (.node 2 7 0 [], [44, 33, 118, 37, 51, 61, 49, 41]) := by
    rw [rd_x (d := 6) rfl rfl]
    show (numS [55, 44, 33, 118, 37, 51, 61, 49, 41]).map _ = _
    rw [n7]; rfl
  have a2 : rdS 6 [118, 37, 51, 61, 49, 41] = some (.node 4 3 1 [], [41]) := by
    rw [rd_m (d := 5) rfl rfl rfl rfl]
    show (numS [51, 61, 49, 41]).bind _ = _
    rw [n3]
    show (if Lib.hasPrefix [61, 49, 41] [61] then (numS [49, 41]).map _ else none) = _
    rw [n1]; rfl
  have a3 : rdS 7 [33, 118, 37, 51, 61, 49, 41] = some (.node 5 0 0 [.node 4 3 1 []], [41]) := by
    rw [rd_n (d := 6) (fun i q1 q2 => by have : i = 1 ∨ i = 2 ∨ i = 3 ∨ i = 4 := by omega
                                         rcases this with rfl | rfl | rfl | rfl <;> rfl) rfl]
    show (rdS 6 [118, 37, 51, 61, 49, 41]).map _ = _
    rw [a2]; rfl
  have a4 : rdS 8 [38, 40, 120, 60, 61, 55, 44, 33, 118, 37, 51, 61, 49, 41] = some (exT, []) := by
    rw [rd_r (d := 7) 6 38 (by decide) (fun i q1 q2 => by have : i = 1 ∨ i = 2 ∨ i = 3 ∨ i = 4 ∨ i = 5 := by omega
                                                          rcases this with rfl | rfl | rfl | rfl | rfl <;> rfl) rfl]
    show (listB (rdS 7) [120, 60, 61, 55, 44, 33, 118, 37, 51, 61, 49, 41]).map _ = _
    have b1 : listB (rdS 7) [120, 60, 61, 55, 44, 33, 118, 37, 51, 61, 49, 41] = some ([.node 2 7 0 [], .node 5 0 0 [.node 4 3 1 []]], []) := by
      show contS (rdS 7) [120, 60, 61, 55, 44, 33, 118, 37, 51, 61, 49, 41] = _
      rw [cont_more (rdS_len 7) a1, cont_shut a3]
      rfl
    rw [b1]; rfl
  unfold readT
  rw [a4]
  show ansT (if exT.rightB then some exT else none) = _
  rw [show exT.rightB = true by rfl]
  rfl
theorem ex2 : ansT (readT [118, 37, 51, 61, 51]) = (.node 0 0 0 [], 40) := by
  have n3 : numS [51, 61, 51] = some (3, [61, 51]) := num_one (n := 3) (by omega) _ (by intro c h; injection h with h; subst h; rfl)
  have n1 : numS [51] = some (3, []) := num_one (n := 3) (by omega) _ (by intro c h; cases h)
  have a2 : rdS 8 [118, 37, 51, 61, 51] = some (.node 4 3 3 [], []) := by
    rw [rd_m (d := 7) rfl rfl rfl rfl]
    show (numS [51, 61, 51]).bind _ = _
    rw [n3]
    show (if Lib.hasPrefix [61, 51] [61] then (numS [51]).map _ else none) = _
    rw [n1]; rfl
  unfold readT
  rw [a2]
  rfl
theorem ex3 : ansT (readT [120, 60, 61, 48, 55]) = (.node 0 0 0 [], 40) := by
  have n0 : numS [48, 55] = none := by
    have h0 := ((DgI.zero [48, 55]).step (c := 48) rfl rfl (by decide)).step (c := 55) rfl rfl (by decide)
    have h1 := h0.done (by simp) (fun c hc => by simp at hc)
    rw [h1]
    have : Lib.decDigits ((0 * 10 + ((48 : UInt8).toNat - 48)) * 10 + ((55 : UInt8).toNat - 48)) = [55] := by
      rw [show ((0 * 10 + ((48 : UInt8).toNat - 48)) * 10 + ((55 : UInt8).toNat - 48)) = 7 by rfl, dec1 (by omega)]; rfl
    rw [this]
    rfl
  have a2 : rdS 8 [120, 60, 61, 48, 55] = none := by
    rw [rd_x (d := 7) rfl rfl]
    show (numS [48, 55]).map _ = _
    rw [n0]; rfl
  unfold readT
  rw [a2]
  rfl
theorem ex4 : ansT (readT [38, 40, 97, 108, 108, 44, 41]) = (.node 0 0 0 [], 40) := by
  have a1 : rdS 7 [97, 108, 108, 44, 41] = some (.node 1 0 0 [], [44, 41]) := rd_all (d := 6) rfl
  have a3 : rdS 7 [41] = none := rd_0 (d := 6) (fun i q1 q2 => by have : i = 1 ∨ i = 2 ∨ i = 3 ∨ i = 4 ∨ i = 5 := by omega
                                                                  rcases this with rfl | rfl | rfl | rfl | rfl <;> rfl) rfl rfl
  have a4 : rdS 8 [38, 40, 97, 108, 108, 44, 41] = none := by
    rw [rd_r (d := 7) 6 38 (by decide) (fun i q1 q2 => by have : i = 1 ∨ i = 2 ∨ i = 3 ∨ i = 4 ∨ i = 5 := by omega
                                                          rcases this with rfl | rfl | rfl | rfl | rfl <;> rfl) rfl]
    have b1 : listB (rdS 7) [97, 108, 108, 44, 41] = none := by
      show contS (rdS 7) [97, 108, 108, 44, 41] = _
      rw [cont_more (rdS_len 7) a1, cont_none a3]
      rfl
    have b2 : listB (rdS 7) (List.drop 2 [38, 40, 97, 108, 108, 44, 41]) = none := b1
    rw [b2]
    rfl
  unfold readT
  rw [a4]
  rfl
theorem ex_put : exT.put = [6, 2, 2, 7, 5, 4, 3, 1] := by
  have e : ∀ n, n < 128 → enc n = [n] := fun n h => enc_lt h
  have e2 := e 2 (by omega)
  have e7 := e 7 (by omega)
  have e3 := e 3 (by omega)
  have e1 := e 1 (by omega)
  unfold T.put
  rw [show exT.rightB = true by rfl, if_pos rfl]
  unfold exT
  simp [T.stand, T.standL, numsL, numN, e2, e7, e3, e1]

end Go.Proofs.YtpbmgbeiieapiaaGreatDoor
