import Derived.Test.YtnpcbcfjnhjmmaaGreatDoorV21
import Derived.Test.YtnpcbcfjnhjmmaaGreatDoorV38
import Derived.Test.YtnpcbcfjnhjmmaaGreatDoorV01
namespace Go.Proofs.YtnpcbcfjnhjmmaaGreatDoor
open Go.Shelf Go.RowKit Go.Deep
/-- the known link -/
def kn : ByteArray := ⟨#[109, 97, 103, 110, 101, 116, 58, 63, 120, 116, 61, 117, 114, 110, 58, 98, 116, 109, 104, 58, 49, 50, 50, 48, 48, 48, 48, 48, 48, 48, 48, 48, 48, 48, 48, 48, 48, 48, 48, 48, 48, 48, 48, 48, 48, 48, 48, 48, 48, 48, 48, 48, 48, 48, 48, 48, 48, 48, 48, 48, 48, 48, 48, 48, 48, 48, 48, 48, 48, 48, 48, 48, 48, 48, 48, 48, 48, 48, 48, 48, 48, 48, 48, 48, 48, 48, 102, 102, 38, 100, 110, 61, 97, 37, 50, 48, 98, 38, 115, 111, 61, 49, 44, 51, 45, 52, 38, 120, 46, 112, 101, 61, 104, 58, 49]⟩
def knP : Ps := ⟨[0, 0, 0, 0, 0, 0, 0, 0, 0, 0, 0, 0, 0, 0, 0, 0, 0, 0, 0, 0, 0, 0, 0, 0, 0, 0, 0, 0, 0, 0, 0, 255], ⟨#[97, 32, 98]⟩, [], [⟨#[104, 58, 49]⟩], [(1, 1), (3, 2)], []⟩
theorem kn_pg : pgR kn = (knP, 0, 0) := by kernel_rfl
end Go.Proofs.YtnpcbcfjnhjmmaaGreatDoor
namespace Go.Proofs.YtnpcbcfjnhjmmaaGreatDoor
open Go.Shelf Go.RowKit Go.Deep
theorem kn_ok : (lkOf knP).ok := lkOf_ok (by have h := (pg_bd kn).1; rw [kn_pg] at h; exact h) (by decide) (by decide) (by decide)
theorem kn_small : (lkOf knP).small := ⟨by decide, by decide, by decide, by decide, fun i h => absurd h (Nat.not_lt_zero i)⟩
theorem kn_i64 : ∀ x ∈ (lkOf knP).rs, I64 x.1 ∧ I64 x.2 := by
  intro x hx
  have e : (lkOf knP).rs = [(1, 1), (3, 2)] := rfl
  rw [e] at hx
  simp only [List.mem_cons, List.not_mem_nil, or_false] at hx
  rcases hx with rfl | rfl <;> (unfold I64; decide)
theorem kn_ck : ckN (lkOf knP) = 0 := by kernel_rfl
theorem kn_wS : bs (wS (prm (lkOf knP))) = kn := by kernel_rfl
theorem kn_prE : prE (lkOf knP) = .returned (.tuple #[.string kn, .int .i64 0]) := by unfold prE; rw [if_pos kn_ck, kn_wS]
set_option maxHeartbeats 4000000 in
set_option maxRecDepth 100000 in
theorem awake7 (w : World) (hTG : TG w) (hBT : BT w) : Calls Tryz.prog 5 #[] w fun e w' => e = .returned (.bool true) ∧ Below w.heap.size w w' := by
  have H1 := Lib.hid (parse4 kn w hTG hBT)
  rw [kn_pg] at H1
  have hh32 : knP.h.length = 32 := rfl
  go_enter Tryz.func5, Tryz.ntmps5
  go_wp2_with fail
  refine H1.out.mono ?_
  rintro e w1 ⟨t2, p2, o2, m2, rfl, lo1, b1⟩
  simp only at lo1 ⊢
  obtain ⟨ta, tc, rfl⟩ := ownForm lo1.o1
  obtain ⟨pa, pc, rfl⟩ := ownForm lo1.o2
  obtain ⟨oa, oc, rfl⟩ := ownForm lo1.o3
  obtain ⟨ma, mc, rfl⟩ := ownForm lo1.o4
  replace lo1 : LO w.heap.size w1 knP (.slice ta 0 tc) (.slice pa 1 pc) (.slice oa 2 oc) (.slice ma 0 mc) := lo1
  have hnew := heap_new w1 (Obj.cells #[.int .u8 0, .int .u8 0, .int .u8 0, .int .u8 0, .int .u8 0, .int .u8 0, .int .u8 0, .int .u8 0, .int .u8 0, .int .u8 0, .int .u8 0, .int .u8 0, .int .u8 0, .int .u8 0, .int .u8 0, .int .u8 0, .int .u8 0, .int .u8 0, .int .u8 0, .int .u8 0, .int .u8 0, .int .u8 0, .int .u8 0, .int .u8 0, .int .u8 0, .int .u8 0, .int .u8 0, .int .u8 0, .int .u8 0, .int .u8 0, .int .u8 0, .int .u8 0, .string { data := #[] }, .slice none 0 0, .slice none 0 0, .slice none 0 0, .slice none 0 0] 28)
  have ba : Below w1.heap.size w1 (w1.alloc (Obj.cells #[.int .u8 0, .int .u8 0, .int .u8 0, .int .u8 0, .int .u8 0, .int .u8 0, .int .u8 0, .int .u8 0, .int .u8 0, .int .u8 0, .int .u8 0, .int .u8 0, .int .u8 0, .int .u8 0, .int .u8 0, .int .u8 0, .int .u8 0, .int .u8 0, .int .u8 0, .int .u8 0, .int .u8 0, .int .u8 0, .int .u8 0, .int .u8 0, .int .u8 0, .int .u8 0, .int .u8 0, .int .u8 0, .int .u8 0, .int .u8 0, .int .u8 0, .int .u8 0, .string { data := #[] }, .slice none 0 0, .slice none 0 0, .slice none 0 0, .slice none 0 0] 28)) := (Below.refl _ _).alloc (Nat.le_refl _) _
  have bs : Below w1.heap.size w1 ((w1.alloc (Obj.cells #[.int .u8 0, .int .u8 0, .int .u8 0, .int .u8 0, .int .u8 0, .int .u8 0, .int .u8 0, .int .u8 0, .int .u8 0, .int .u8 0, .int .u8 0, .int .u8 0, .int .u8 0, .int .u8 0, .int .u8 0, .int .u8 0, .int .u8 0, .int .u8 0, .int .u8 0, .int .u8 0, .int .u8 0, .int .u8 0, .int .u8 0, .int .u8 0, .int .u8 0, .int .u8 0, .int .u8 0, .int .u8 0, .int .u8 0, .int .u8 0, .int .u8 0, .int .u8 0, .string { data := #[] }, .slice none 0 0, .slice none 0 0, .slice none 0 0, .slice none 0 0] 28)).setRow w1.heap.size (lkC knP.h knP.nm (.slice ta 0 tc) (.slice pa 1 pc) (.slice oa 2 oc) (.slice ma 0 mc))) := below_setRow ba (Nat.le_refl _) _
  have J1 : Hid (LO w.heap.size ((w1.alloc (Obj.cells #[.int .u8 0, .int .u8 0, .int .u8 0, .int .u8 0, .int .u8 0, .int .u8 0, .int .u8 0, .int .u8 0, .int .u8 0, .int .u8 0, .int .u8 0, .int .u8 0, .int .u8 0, .int .u8 0, .int .u8 0, .int .u8 0, .int .u8 0, .int .u8 0, .int .u8 0, .int .u8 0, .int .u8 0, .int .u8 0, .int .u8 0, .int .u8 0, .int .u8 0, .int .u8 0, .int .u8 0, .int .u8 0, .int .u8 0, .int .u8 0, .int .u8 0, .int .u8 0, .string { data := #[] }, .slice none 0 0, .slice none 0 0, .slice none 0 0, .slice none 0 0] 28)).setRow w1.heap.size (lkC knP.h knP.nm (.slice ta 0 tc) (.slice pa 1 pc) (.slice oa 2 oc) (.slice ma 0 mc))) knP (.slice ta 0 tc) (.slice pa 1 pc) (.slice oa 2 oc) (.slice ma 0 mc) ∧ Below w.heap.size w ((w1.alloc (Obj.cells #[.int .u8 0, .int .u8 0, .int .u8 0, .int .u8 0, .int .u8 0, .int .u8 0, .int .u8 0, .int .u8 0, .int .u8 0, .int .u8 0, .int .u8 0, .int .u8 0, .int .u8 0, .int .u8 0, .int .u8 0, .int .u8 0, .int .u8 0, .int .u8 0, .int .u8 0, .int .u8 0, .int .u8 0, .int .u8 0, .int .u8 0, .int .u8 0, .int .u8 0, .int .u8 0, .int .u8 0, .int .u8 0, .int .u8 0, .int .u8 0, .int .u8 0, .int .u8 0, .string { data := #[] }, .slice none 0 0, .slice none 0 0, .slice none 0 0, .slice none 0 0] 28)).setRow w1.heap.size (lkC knP.h knP.nm (.slice ta 0 tc) (.slice pa 1 pc) (.slice oa 2 oc) (.slice ma 0 mc))) ∧ LB ((w1.alloc (Obj.cells #[.int .u8 0, .int .u8 0, .int .u8 0, .int .u8 0, .int .u8 0, .int .u8 0, .int .u8 0, .int .u8 0, .int .u8 0, .int .u8 0, .int .u8 0, .int .u8 0, .int .u8 0, .int .u8 0, .int .u8 0, .int .u8 0, .int .u8 0, .int .u8 0, .int .u8 0, .int .u8 0, .int .u8 0, .int .u8 0, .int .u8 0, .int .u8 0, .int .u8 0, .int .u8 0, .int .u8 0, .int .u8 0, .int .u8 0, .int .u8 0, .int .u8 0, .int .u8 0, .string { data := #[] }, .slice none 0 0, .slice none 0 0, .slice none 0 0, .slice none 0 0] 28)).setRow w1.heap.size (lkC knP.h knP.nm (.slice ta 0 tc) (.slice pa 1 pc) (.slice oa 2 oc) (.slice ma 0 mc))) w1.heap.size knP.h knP.nm (.slice ta 0 tc) (.slice pa 1 pc) (.slice oa 2 oc) (.slice ma 0 mc)) := ⟨lo1.below bs, b1.trans (bs.mono b1.size), setRow_heap _ w1.heap.size _ _ _ _ hnew⟩
  have hiL := infoLk (nm := knP.nm) (tr := .slice ta 0 tc) (pe := .slice pa 1 pc) (on := .slice oa 2 oc) (mo := .slice ma 0 mc) hh32
  have hsz1 : (#[.int .u8 0, .int .u8 0, .int .u8 0, .int .u8 0, .int .u8 0, .int .u8 0, .int .u8 0, .int .u8 0, .int .u8 0, .int .u8 0, .int .u8 0, .int .u8 0, .int .u8 0, .int .u8 0, .int .u8 0, .int .u8 0, .int .u8 0, .int .u8 0, .int .u8 0, .int .u8 0, .int .u8 0, .int .u8 0, .int .u8 0, .int .u8 0, .int .u8 0, .int .u8 0, .int .u8 0, .int .u8 0, .int .u8 0, .int .u8 0, .int .u8 0, .int .u8 0, .string { data := #[] }, .slice none 0 0, .slice none 0 0, .slice none 0 0, .slice none 0 0] : Array Value).size = (lkC knP.h knP.nm (.slice ta 0 tc) (.slice pa 1 pc) (.slice oa 2 oc) (.slice ma 0 mc)).size := by rw [lkC_size hh32]; rfl
  clear lo1 b1 ba bs H1
  go_upto_region 2 with (refine wpList_store_row rfl 28 _ _ rfl w1.heap.size (lkC knP.h knP.nm (.slice ta 0 tc) (.slice pa 1 pc) (.slice oa 2 oc) (.slice ma 0 mc)) rfl rfl 28 _ hnew hiL hsz1 lkC_one ?_)
  generalize ((w1.alloc (Obj.cells #[.int .u8 0, .int .u8 0, .int .u8 0, .int .u8 0, .int .u8 0, .int .u8 0, .int .u8 0, .int .u8 0, .int .u8 0, .int .u8 0, .int .u8 0, .int .u8 0, .int .u8 0, .int .u8 0, .int .u8 0, .int .u8 0, .int .u8 0, .int .u8 0, .int .u8 0, .int .u8 0, .int .u8 0, .int .u8 0, .int .u8 0, .int .u8 0, .int .u8 0, .int .u8 0, .int .u8 0, .int .u8 0, .int .u8 0, .int .u8 0, .int .u8 0, .int .u8 0, .string { data := #[] }, .slice none 0 0, .slice none 0 0, .slice none 0 0, .slice none 0 0] 28)).setRow w1.heap.size (lkC knP.h knP.nm (.slice ta 0 tc) (.slice pa 1 pc) (.slice oa 2 oc) (.slice ma 0 mc))) = u1 at *
  generalize w1.heap.size = G1 at *
  clear hnew hsz1
  have c0 : u1.cell? ⟨G1, 0, none⟩ = some (.int .u8 0) := by have h := J1.out.2.2; unfold LB at h; simp only [World.cell?, h]; rfl
  have c31 : u1.cell? ⟨G1, 31, none⟩ = some (.int .u8 255) := by have h := J1.out.2.2; unfold LB at h; simp only [World.cell?, h]; rfl
  have c32 : u1.cell? ⟨G1, 32, none⟩ = some (.string { data := #[97, 32, 98] }) := by have h := J1.out.2.2; unfold LB at h; simp only [World.cell?, h]; rfl
  have c34 : u1.cell? ⟨G1, 34, none⟩ = some (.slice pa 1 pc) := by have h := J1.out.2.2; unfold LB at h; simp only [World.cell?, h]; rfl
  have c35 : u1.cell? ⟨G1, 35, none⟩ = some (.slice oa 2 oc) := by have h := J1.out.2.2; unfold LB at h; simp only [World.cell?, h]; rfl
  have HR := Lib.hid (rl4_of J1.out.1)
  obtain ⟨ob, oo, rfl, d0, d1⟩ : ∃ b o, oa = some ⟨b, o, none⟩ ∧ u1.cell? ⟨b, o + 2, none⟩ = some (.int .i64 3) ∧ u1.cell? ⟨b, o + 2 + 1, none⟩ = some (.int .i64 2) := by
    obtain ⟨a, c, e, h⟩ := HR.out.2.2.1
    rcases h with h | ⟨b, o, rfl, _, _, h⟩
    · exact absurd h (by decide)
    · obtain ⟨g1, g2⟩ := h 1 (3, 2) rfl
      injection e with e1 e2 e3
      exact ⟨b, o, e1, g1, g2⟩
  have HP := Lib.hid (HR.out.2.1)
  clear HR
  go_wp2_with (first | (go_at_call 12; refine (num9 _ _).mono ?_; rintro e w9 ⟨rfl, rfl⟩))
  have ba : Below w9.heap.size w9 (w9.alloc (Obj.cells #[Value.string { data := #[104, 58, 49] }] 9)) := (Below.refl _ _).alloc (Nat.le_refl _) _
  have HB : Hid (Below w.heap.size w (w9.alloc (Obj.cells #[Value.string { data := #[104, 58, 49] }] 9))) := J1.out.2.1.trans (ba.mono J1.out.2.1.size)
  have hlb : LB (w9.alloc (Obj.cells #[Value.string { data := #[104, 58, 49] }] 9)) G1 knP.h knP.nm (.slice ta 0 tc) (.slice pa 1 pc) (.slice (some ⟨ob, oo, none⟩) 2 oc) (.slice ma 0 mc) := J1.out.2.2.keep (ba.block G1 J1.out.2.2.lt)
  have HR2 : Hid (RL4 (fun _ => True) (w9.alloc (Obj.cells #[Value.string { data := #[104, 58, 49] }] 9)) (lkOf knP) (.slice ta 0 tc) (.slice pa 1 pc) (.slice (some ⟨ob, oo, none⟩) 2 oc) (.slice ma 0 mc)) := rl4_of (J1.out.1.below (ba.mono (by have := J1.out.2.1.size; omega)))
  have hrs : RS (fun _ => True) (w9.alloc (Obj.cells #[Value.string { data := #[104, 58, 49] }] 9)) (.slice (some ⟨w9.heap.size, 0, none⟩) 1 1) knP.ps := by
    refine ⟨_, _, rfl, .inr ⟨w9.heap.size, 0, rfl, trivial, by simp, fun i x hx => ?_⟩⟩
    obtain rfl : i = 0 := by
      have := (List.getElem?_eq_some_iff.1 hx).1
      exact Nat.lt_one_iff.1 this
    have e : x = { data := #[104, 58, 49] } := (Option.some.inj hx).symm
    rw [e]
    have h := heap_new w9 (Obj.cells #[Value.string { data := #[104, 58, 49] }] 9)
    simp only [World.cell?, h]
    rfl
  refine (textsSame _ _ knP.ps _ (by decide) HR2.out.2.1 hrs).mono ?_
  rintro e w10 ⟨rfl, nq, rfl⟩
  clear c0 c31 c32 c34 c35 d0 d1 HP J1 hrs ba
  have HD : Hid (Below w.heap.size w ((w9.alloc (Obj.cells #[Value.string { data := #[104, 58, 49] }] 9)).drewN nq)) := HB.out.trans ((belowDrewN _ nq).mono HB.out.size)
  replace hlb : LB ((w9.alloc (Obj.cells #[Value.string { data := #[104, 58, 49] }] 9)).drewN nq) G1 knP.h knP.nm (.slice ta 0 tc) (.slice pa 1 pc) (.slice (some ⟨ob, oo, none⟩) 2 oc) (.slice ma 0 mc) := hlb
  replace HR2 : Hid (RL4 (fun _ => True) ((w9.alloc (Obj.cells #[Value.string { data := #[104, 58, 49] }] 9)).drewN nq) (lkOf knP) (.slice ta 0 tc) (.slice pa 1 pc) (.slice (some ⟨ob, oo, none⟩) 2 oc) (.slice ma 0 mc)) := HR2.out.move (fun _ h _ => h) (Nat.le_refl _) (fun _ _ _ => rfl)
  generalize ((w9.alloc (Obj.cells #[Value.string { data := #[104, 58, 49] }] 9)).drewN nq) = w10 at *
  clear HB
  have hkn : kn.toList = [109, 97, 103, 110, 101, 116, 58, 63, 120, 116, 61, 117, 114, 110, 58, 98, 116, 109, 104, 58, 49, 50, 50, 48, 48, 48, 48, 48, 48, 48, 48, 48, 48, 48, 48, 48, 48, 48, 48, 48, 48, 48, 48, 48, 48, 48, 48, 48, 48, 48, 48, 48, 48, 48, 48, 48, 48, 48, 48, 48, 48, 48, 48, 48, 48, 48, 48, 48, 48, 48, 48, 48, 48, 48, 48, 48, 48, 48, 48, 48, 48, 48, 48, 48, 48, 48, 102, 102, 38, 100, 110, 61, 97, 37, 50, 48, 98, 38, 115, 111, 61, 49, 44, 51, 45, 52, 38, 120, 46, 112, 101, 61, 104, 58, 49] := by rw [Lib.toList_data]; rfl
  have HPr : Hid (Calls Tryz.prog 8 #[.agg (lkC knP.h knP.nm (.slice ta 0 tc) (.slice pa 1 pc) (.slice (some ⟨ob, oo, none⟩) 2 oc) (.slice ma 0 mc))] w10 fun e w' => e = .returned (.tuple #[.string kn, .int .i64 0]) ∧ Below w10.heap.size w10 w') := by
    have h9 := print10 (lkOf knP) _ _ _ _ w10 kn_ok kn_small kn_i64 (hTG.1 w10 HD.out) (hBT.keep HD.out) HR2.out
    rw [kn_prE] at h9
    exact h9
  go_wp2_with (first | (refine wpList_load_row rfl 28 _ rfl G1 rfl 28 (lkC knP.h knP.nm (.slice ta 0 tc) (.slice pa 1 pc) (.slice (some ⟨ob, oo, none⟩) 2 oc) (.slice ma 0 mc)) (0, 0) _ hlb Tryz.underlying28 rfl hiL ?_) | (go_at_call 8; refine HPr.out.mono ?_; rintro e w11 ⟨rfl, b11⟩) | (go_at_call 12; refine (num9 _ _).mono ?_; rintro e w12 ⟨rfl, rfl⟩))
  go_ret
  exact ⟨by simp, HD.out.trans (b11.mono HD.out.size)⟩
end Go.Proofs.YtnpcbcfjnhjmmaaGreatDoor
