/- Rows of bytes beside a disk. Conditions: the disk's numbers stay below 2^40. -/
import Derived.Test.YtpfahfakinonnaaDoorJu
import Derived.RegionTactic
import Derived.ChangeAlike
import Derived.BigRegion
namespace Go.Proofs.YtpfahfakinonnaaDoor
open Go.RowKit Go.Deep
/-- Rows of bytes stand beside a disk's block. -/
theorem RL.apart8 {w w' : World} {B base g : Nat} {v : Value} {L : List (List Int)} {d : DS} (h : RL w base v L) (hD : Dk w B g d) (hk : g < base) (hg : w.grownBy w' (some g)) : RL w' base v L := by
  obtain ⟨vL, vS, hB, hL, hS, _⟩ := hD
  obtain ⟨AL, cL, rfl⟩ := own_slice hL
  obtain ⟨AS, cS, rfl⟩ := own_slice hS
  obtain ⟨es, ho, he⟩ := h
  refine ⟨es, ho.kept hg ?_, fun i x hx => ?_⟩
  · rcases own_at ho with h | ⟨q, h, hq⟩
    · exact .inl h
    · right; rw [h]; intro e; injection e with e; omega
  obtain ⟨A, c, h1, h2, h3⟩ := he i x hx
  refine ⟨A, c, h1, h2, ?_⟩
  rcases h3 with h3 | ⟨b, off, rfl, hb, hv, hcl⟩
  · exact .inl h3
  cases x with
  | nil => exact .inl rfl
  | cons x0 xs =>
    right
    have hbk : b ≠ g := by
      rintro rfl
      have h0 := hcl 0 (.int .u8 x0) (by simp [bs])
      unfold World.cell? at h0
      unfold Blk at hB
      rw [show w.heap[(⟨b, off + 0, none⟩ : Addr).block]? = _ from hB] at h0
      rcases off with _ | _ | _ | _ | _ | _ | _ | _ | off <;> simp [cellsOf] at h0
    exact ⟨b, off, rfl, Nat.lt_of_lt_of_le hb hg.size, hv, fun j u hu => (World.cell?_of_block (hg.block b hb (by intro e; injection e with e; exact hbk e))).trans (hcl j u hu)⟩
end Go.Proofs.YtpfahfakinonnaaDoor
