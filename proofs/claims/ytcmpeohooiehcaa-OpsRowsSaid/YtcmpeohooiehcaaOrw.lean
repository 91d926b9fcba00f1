/- The walk of OpsRows: it returns true for every input. No condition. -/
import Derived.Test.YtcmpeohooiehcaaOrwa
import Derived.Test.YtcmpeohooiehcaaOrwb
import Derived.Test.YtcmpeohooiehcaaOrwc
namespace Go.Proofs.Ytcmpeohooiehcaa
open Go.RowKit Go.Deep

theorem opsRows_walk (a n : Int) (w : World) (a1 : -9223372036854775808 ≤ a) (a2 : a ≤ 9223372036854775807) (n1 : -9223372036854775808 ≤ n) (n2 : n ≤ 9223372036854775807) :
    Calls Try.prog 6 #[.int .i64 a, .int .i64 n] w fun e w' => e = .returned (.bool true) ∧ w.grownBy w' none := by
  rcases (show a % 9 = 0 ∨ a % 9 = 1 ∨ a % 9 = 2 ∨ a % 9 = 3 ∨ a % 9 = 4 ∨ a % 9 = 5 ∨ a % 9 = 6 ∨ a % 9 = 7 ∨ a % 9 = 8 by omega) with ha | ha | ha | ha | ha | ha | ha | ha | ha <;>
  rcases (show n % 4 = 0 ∨ n % 4 = 1 ∨ n % 4 = 2 ∨ n % 4 = 3 by omega) with hn | hn | hn | hn
  · exact rows_0_0 a n w a1 a2 n1 n2 ha hn
  · exact rows_0_1 a n w a1 a2 n1 n2 ha hn
  · exact rows_0_2 a n w a1 a2 n1 n2 ha hn
  · exact rows_0_3 a n w a1 a2 n1 n2 ha hn
  · exact rows_1_0 a n w a1 a2 n1 n2 ha hn
  · exact rows_1_1 a n w a1 a2 n1 n2 ha hn
  · exact rows_1_2 a n w a1 a2 n1 n2 ha hn
  · exact rows_1_3 a n w a1 a2 n1 n2 ha hn
  · exact rows_2_0 a n w a1 a2 n1 n2 ha hn
  · exact rows_2_1 a n w a1 a2 n1 n2 ha hn
  · exact rows_2_2 a n w a1 a2 n1 n2 ha hn
  · exact rows_2_3 a n w a1 a2 n1 n2 ha hn
  · exact rows_3_0 a n w a1 a2 n1 n2 ha hn
  · exact rows_3_1 a n w a1 a2 n1 n2 ha hn
  · exact rows_3_2 a n w a1 a2 n1 n2 ha hn
  · exact rows_3_3 a n w a1 a2 n1 n2 ha hn
  · exact rows_4_0 a n w a1 a2 n1 n2 ha hn
  · exact rows_4_1 a n w a1 a2 n1 n2 ha hn
  · exact rows_4_2 a n w a1 a2 n1 n2 ha hn
  · exact rows_4_3 a n w a1 a2 n1 n2 ha hn
  · exact rows_5_0 a n w a1 a2 n1 n2 ha hn
  · exact rows_5_1 a n w a1 a2 n1 n2 ha hn
  · exact rows_5_2 a n w a1 a2 n1 n2 ha hn
  · exact rows_5_3 a n w a1 a2 n1 n2 ha hn
  · exact rows_6_0 a n w a1 a2 n1 n2 ha hn
  · exact rows_6_1 a n w a1 a2 n1 n2 ha hn
  · exact rows_6_2 a n w a1 a2 n1 n2 ha hn
  · exact rows_6_3 a n w a1 a2 n1 n2 ha hn
  · exact rows_7_0 a n w a1 a2 n1 n2 ha hn
  · exact rows_7_1 a n w a1 a2 n1 n2 ha hn
  · exact rows_7_2 a n w a1 a2 n1 n2 ha hn
  · exact rows_7_3 a n w a1 a2 n1 n2 ha hn
  · exact rows_8_0 a n w a1 a2 n1 n2 ha hn
  · exact rows_8_1 a n w a1 a2 n1 n2 ha hn
  · exact rows_8_2 a n w a1 a2 n1 n2 ha hn
  · exact rows_8_3 a n w a1 a2 n1 n2 ha hn
end Go.Proofs.Ytcmpeohooiehcaa
