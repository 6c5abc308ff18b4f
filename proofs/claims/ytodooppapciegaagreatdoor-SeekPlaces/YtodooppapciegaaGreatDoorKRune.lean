/- What the rune functions of package kinds answer: Blank, Ends, Word, Width, Fold, each as lists of ranges. -/
import Derived.Test.YtodooppapciegaaGreatDoorUFirst
namespace Go.Proofs.YtodooppapciegaaGreatDoor
open Go.RowKit
set_option linter.unusedVariables false

/-- Within a range, both ends in. -/
def inB (r a b : Int) : Bool := decide (a ≤ r) && decide (r ≤ b)
def inL (l : List (Int × Int)) (r : Int) : Bool := l.any fun p => inB r p.1 p.2
def inO (l : List Int) (r : Int) : Bool := l.any fun p => r == p
theorem inL_nil (r : Int) : inL [] r = false := rfl
theorem inL_cons (a b : Int) (l : List (Int × Int)) (r : Int) : inL ((a, b) :: l) r = (inB r a b || inL l r) := rfl
theorem inO_nil (r : Int) : inO [] r = false := rfl
theorem inO_cons (a : Int) (l : List Int) (r : Int) : inO (a :: l) r = ((r == a) || inO l r) := rfl

def blankL : List Int := [9, 10, 11, 12, 13, 32, 133, 160, 5760, 8192, 8193, 8194, 8195, 8196, 8197, 8198, 8199, 8200, 8201, 8202, 8232, 8233, 8239, 8287, 12288]
def endL : List Int := [10, 13, 133, 8232, 8233]
def wordO : List Int := [95, 170, 181, 186]
def wordL : List (Int × Int) := [(48, 57), (65, 90), (97, 122), (192, 214), (216, 246), (248, 893), (895, 902), (904, 1327), (1329, 1366), (1377, 1415), (1488, 1514), (1568, 1641), (2308, 2361), (3585, 3632), (4256, 4351), (7680, 8191), (12353, 12438), (12449, 12538), (13312, 19903), (19968, 40959), (44032, 55203), (63744, 64255), (65296, 65305), (65313, 65338), (65345, 65370), (65382, 65437), (66560, 66639), (119808, 120831), (131072, 195103)]
def zeroL : List (Int × Int) := [(0, 31), (127, 159), (768, 879), (1155, 1161), (1425, 1469), (1552, 1562), (1611, 1631), (8203, 8207), (8232, 8238), (8288, 8292), (8400, 8447), (65024, 65039), (65056, 65071)]
def zeroM : List (Int × Int) := [(917760, 917999)]
def twoL : List (Int × Int) := [(4352, 4447), (11904, 12350), (12353, 19903), (19968, 42191), (44032, 55203), (63744, 64255), (65072, 65135), (65280, 65376), (65504, 65510), (127744, 128591), (128640, 128767), (129280, 129535), (131072, 262141)]
def evenL : List (Int × Int) := [(256, 302), (306, 310), (330, 374), (984, 1006), (1120, 1152), (1162, 1214), (1232, 1326), (7680, 7828), (7840, 7934)]
def oddL : List (Int × Int) := [(313, 327), (377, 381), (1217, 1229)]
def blankK (r : Int) : Bool := inO blankL r
def endK (r : Int) : Bool := inO endL r
def wordK (r : Int) : Bool := inO wordO r || inL wordL r
def widthK (r : Int) : Int := if inL zeroL r || ((r == 65279) || inL zeroM r) then 0 else if inL twoL r then 2 else 1
def pairsK (r : Int) : Bool := if inL evenL r then (Int.tmod r 2 == 0) else if inL oddL r then (Int.tmod r 2 == 1) else false
def singleK (r : Int) : Int := if r == 376 then 255 else if r == 383 then 115 else if r == 902 then 940 else if r == 908 then 972 else if r == 962 then 963 else if r == 7838 then 223 else if r == 8486 then 969 else if r == 8490 then 107 else if r == 8491 then 229 else r
def addL0 : List (Int × Int) := [(65, 90), (192, 214), (216, 222), (913, 929), (931, 939), (1040, 1071), (65313, 65338)]
def addL1 : List (Int × Int) := [(904, 906)]
def addL2 : List (Int × Int) := [(910, 911)]
def addL3 : List (Int × Int) := [(1024, 1039)]
def addL4 : List (Int × Int) := [(1329, 1366)]
def addL5 : List (Int × Int) := [(8544, 8559)]
def addL6 : List (Int × Int) := [(9398, 9423)]
def addL7 : List (Int × Int) := [(66560, 66599)]
def foldK (r : Int) : Int := if pairsK r then wrap32 (r + 1) else if inL addL0 r then wrap32 (r + 32) else if inL addL1 r then wrap32 (r + 37) else if inL addL2 r then wrap32 (r + 63) else if inL addL3 r then wrap32 (r + 80) else if inL addL4 r then wrap32 (r + 48) else if inL addL5 r then wrap32 (r + 16) else if inL addL6 r then wrap32 (r + 26) else if inL addL7 r then wrap32 (r + 40) else singleK r

theorem ret_b {a b : Bool} (h : a = b) : Ending.returned (.bool a) = .returned (.bool b) := by rw [h]
theorem ret_k {k : IntKind} {a b : Int} (h : a = b) : Ending.returned (.int k a) = .returned (.int k b) := by rw [h]
theorem within_any (r a b : Int) (w : World) : Calls Tryz.prog 81 #[.int .i32 r, .int .i32 a, .int .i32 b] w fun e w' => e = .returned (.bool (inB r a b)) ∧ w' = w := by
  unfold inB
  by_cases h1 : a ≤ r
  · go_enter Tryz.func81, Tryz.ntmps81
    go_wp2
    go_ret
    exact ⟨ret_b (by simp [h1]), rfl⟩
  · go_enter Tryz.func81, Tryz.ntmps81
    go_wp2
    go_ret
    exact ⟨ret_b (by rw [decide_eq_false (Int.not_le.2 h1)]; rfl), rfl⟩

set_option maxHeartbeats 4000000 in
theorem blank_any (r : Int) (w : World) : Calls Tryz.prog 79 #[.int .i32 r] w fun e w' => e = .returned (.bool (blankK r)) ∧ w' = w := by
  go_enter Tryz.func79, Tryz.ntmps79
  go_wp2
  all_goals go_ret
  all_goals refine ⟨ret_b ?_, rfl⟩
  all_goals first | (simp only [blankK, blankL, inO_cons, inO_nil, Bool.or_true, Bool.true_or, Bool.or_false, *]; done) | (simp only [blankK, blankL, inO_cons, inO_nil, Bool.or_true, Bool.true_or, Bool.or_false, *]; simp; done) | (simp_all; done) | decide
set_option maxHeartbeats 4000000 in
theorem kends_any (r : Int) (w : World) : Calls Tryz.prog 64 #[.int .i32 r] w fun e w' => e = .returned (.bool (endK r)) ∧ w' = w := by
  go_enter Tryz.func64, Tryz.ntmps64
  go_wp2
  all_goals go_ret
  all_goals refine ⟨ret_b ?_, rfl⟩
  all_goals first | (simp only [endK, endL, inO_cons, inO_nil, Bool.or_true, Bool.true_or, Bool.or_false, *]; done) | (simp only [endK, endL, inO_cons, inO_nil, Bool.or_true, Bool.true_or, Bool.or_false, *]; simp; done) | (simp_all; done) | decide
set_option maxHeartbeats 8000000 in
theorem word_any (r : Int) (w : World) : Calls Tryz.prog 77 #[.int .i32 r] w fun e w' => e = .returned (.bool (wordK r)) ∧ w' = w := by
  go_enter Tryz.func77, Tryz.ntmps77
  go_wp2_with (go_at_call 81; refine (within_any _ _ _ _).mono ?_; rintro e w1 ⟨rfl, rfl⟩)
  all_goals go_ret
  all_goals refine ⟨ret_b ?_, rfl⟩
  all_goals first | (simp only [wordK, wordO, wordL, inO_cons, inO_nil, inL_cons, inL_nil, Bool.or_true, Bool.true_or, Bool.or_false, *]; done) | (simp only [wordK, wordO, wordL, inO_cons, inO_nil, inL_cons, inL_nil, Bool.or_true, Bool.true_or, Bool.or_false, *]; simp; done) | (simp_all; done) | decide
set_option maxHeartbeats 8000000 in
theorem pairs_any (r : Int) (w : World) : Calls Tryz.prog 80 #[.int .i32 r] w fun e w' => e = .returned (.bool (pairsK r)) ∧ w' = w := by
  go_enter Tryz.func80, Tryz.ntmps80
  go_wp2_with (go_at_call 81; refine (within_any _ _ _ _).mono ?_; rintro e w1 ⟨rfl, rfl⟩)
  all_goals go_ret
  all_goals refine ⟨ret_b ?_, rfl⟩
  all_goals first | (simp only [pairsK, evenL, oddL, inL_cons, inL_nil, Bool.or_true, Bool.true_or, Bool.or_false, *]; done) | (simp only [pairsK, evenL, oddL, inL_cons, inL_nil, Bool.or_true, Bool.true_or, Bool.or_false, *]; simp; done) | (simp_all; done) | decide
set_option maxHeartbeats 4000000 in
theorem single_any (r : Int) (w : World) : Calls Tryz.prog 82 #[.int .i32 r] w fun e w' => e = .returned (.int .i32 (singleK r)) ∧ w' = w := by
  go_enter Tryz.func82, Tryz.ntmps82
  go_wp2
  all_goals go_ret
  all_goals refine ⟨ret_k ?_, rfl⟩
  all_goals first | (simp only [singleK, *]; done) | (simp only [singleK, *]; simp; done) | (simp_all; done) | decide
set_option maxHeartbeats 8000000 in
theorem fold_any (r : Int) (w : World) : Calls Tryz.prog 71 #[.int .i32 r] w fun e w' => e = .returned (.int .i32 (foldK r)) ∧ w' = w := by
  go_enter Tryz.func71, Tryz.ntmps71
  go_wp2_with (first | (go_at_call 81; refine (within_any _ _ _ _).mono ?_; rintro e w1 ⟨rfl, rfl⟩) | (go_at_call 80; refine (pairs_any _ _).mono ?_; rintro e w1 ⟨rfl, rfl⟩) | (go_at_call 82; refine (single_any _ _).mono ?_; rintro e w1 ⟨rfl, rfl⟩))
  all_goals go_ret
  all_goals refine ⟨ret_k ?_, rfl⟩
  all_goals first | (simp only [foldK, addL0, addL1, addL2, addL3, addL4, addL5, addL6, addL7, inL_cons, inL_nil, Bool.or_true, Bool.true_or, Bool.or_false, *]; done) | (simp only [foldK, addL0, addL1, addL2, addL3, addL4, addL5, addL6, addL7, inL_cons, inL_nil, Bool.or_true, Bool.true_or, Bool.or_false, *]; simp; done) | (simp_all; done) | decide
end Go.Proofs.YtodooppapciegaaGreatDoor
